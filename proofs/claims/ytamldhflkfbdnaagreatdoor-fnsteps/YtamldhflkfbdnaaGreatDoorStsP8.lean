/-
  What FnSteps leans on: part 8.
-/
import Derived.Test.YtamldhflkfbdnaaGreatDoorStsP1
import Derived.Test.YtamldhflkfbdnaaGreatDoorStsP3
import Derived.Test.YtamldhflkfbdnaaGreatDoorStsP7
set_option linter.unusedVariables false
set_option linter.unusedSimpArgs false
set_option maxRecDepth 20000
namespace Go.Proofs.YtamldhflkfbdnaaGreatDoor.Mem
open Go.ChangeShapes Go.WideShapes Go.RowKit Base Num Slc Slf Rw Tmr Srl Rom Opl Reg

structure Tame (base : Nat) (w w' : World) : Prop where
 os : w'.os = w.os
 tape : w'.tape = w.tape
 output : w'.output = w.output
 size : w.heap.size ≤ w'.heap.size
 block : ∀ k, k < w.heap.size → (k < base ∨ ∀ cs T fz, w.heap[k]? = some (.cells cs T fz) → Plain T ∧ T ≠ 2) → w'.heap[k]? = w.heap[k]?
theorem Tame.refl (base : Nat) (w : World) : Tame base w w := ⟨rfl, rfl, rfl, Nat.le_refl _, fun _ _ _ => rfl⟩
theorem Tame.below {base : Nat} {w w' : World} (h : Tame base w w') (hs : base ≤ w.heap.size) : Below base w w' := ⟨h.os, h.tape, h.output, h.size, fun k hk => h.block k (by omega) (.inl hk)⟩
theorem Tame.row {base g : Nat} {w w' : World} {cs : Array Value} {T : TypeId} (h : Tame base w w') (hr : Row w g cs T) (hT : Plain T) (hi : T ≠ 2) : Row w' g cs T :=
 hr.keep (h.block g hr.lt (.inr fun cs' T' fz e => by
  rw [hr.row] at e
  simp only [Option.some.injEq, Obj.cells.injEq] at e
  exact e.2.1 ▸ ⟨hT, hi⟩))
section
variable {base p : Nat} {w w1 w2 : World}
theorem zV (h : Tame base w w1) (hs : base ≤ w1.heap.size) (hb : Below w1.heap.size w1 w2) : Tame base w w2 :=
 ⟨hb.os.trans h.os, hb.tape.trans h.tape, hb.output.trans h.output, Nat.le_trans h.size hb.size, fun k hk hp => (hb.block k (Nat.lt_of_lt_of_le hk h.size)).trans (h.block k hk hp)⟩
theorem zW (h : Tame base w w1) (o : Onto p w1 w2) (hp : w.heap.size ≤ p) (hs : base ≤ w1.heap.size) : Tame base w w2 :=
 ⟨o.os.trans h.os, o.tape.trans h.tape, o.output.trans h.output, Nat.le_trans h.size o.size, fun k hk hp' => (o.block k (by omega) (Nat.lt_of_lt_of_le hk h.size)).trans (h.block k hk hp')⟩
theorem zAx {v : Value} {l : List Int} (h : Tame base w w1) (hv : Own base w v l) (hg : v.ownBlock = some p) (o : Onto p w1 w2) : Tame base w w2 :=
 ⟨o.os.trans h.os, o.tape.trans h.tape, o.output.trans h.output, Nat.le_trans h.size o.size, fun k hk hp => (o.block k (fun e => by
  subst e
  rcases hp with hp | hp
  ·have := (hv.lt _ hg).1; omega
  ·rcases hv.2 with ⟨rfl, _⟩ | ⟨g, cap, cur, rfl, _, hb, _⟩
   ·simp [Value.ownBlock] at hg
   ·have e : g = k := Option.some.inj hg
    subst e
    exact (hp _ _ _ hb).2 rfl) (Nat.lt_of_lt_of_le hk h.size)).trans (h.block k hk hp)⟩
theorem zAt (h : Tame base w w1) (hs : base ≤ w1.heap.size) (m : Mild base w1 w2) : Tame base w w2 :=
 ⟨m.os.trans h.os, m.tape.trans h.tape, m.output.trans h.output, Nat.le_trans h.size m.size, fun k hk hp => by
  have e := h.block k hk hp
  refine (m.block k (Nat.lt_of_lt_of_le hk h.size) ?_).trans e
  rw [e]
  exact hp.imp id fun hp cs T fz hq => (hp cs T fz hq).1⟩
theorem zFx {α : Type} {f : Fl α} {v : Value} {l : List α} (hs : SlF f w v l) (hv : 0 < l.length → ∀ k, v.ownBlock = some k → k < base) (hb : Tame base w w1) : SlF f w1 v l := by
 obtain ⟨a, cap, rfl, h1, h2⟩ := hs
 exact ⟨a, cap, rfl, h1.keep hb.size (fun h0 x hx => hb.block _ (h1.lt h0 x hx) (.inl (hv h0 _ (by subst hx; rfl)))), h2⟩
end
abbrev TRow (w : World) (g : Nat) (t : Tm) : Prop := Row w g #[.int .i64 t.c, .int .i64 t.v, .int .i64 t.s, .int .i64 t.m] 26
section
variable {ops : Array Oper} {rest : List Oper} {op : Oper} {a : Act} {w : World} {Q : Exit → Act → World → Prop} {p q : Operand} {g : Nat} {r r0 : Tm}
theorem al_t (hgd : op.guard = none) (ho : op.op = .alloc 26)
  (h : ∀ w', TRow w' w.heap.size Tm.nul → Below w.heap.size w w' → wpList Tryz.prog ops Q rest (a.put op.dst (.pointer (some ⟨w.heap.size, 0, none⟩))) w') : wpList Tryz.prog ops Q (op :: rest) a w :=
 wpList_plain hgd fun _ hK => by
  have e : (execOp a.eval op).run Tryz.prog w = .ok (.value (.pointer (some ⟨w.heap.size, 0, none⟩))) (w.alloc (.cells #[.int .i64 0, .int .i64 0, .int .i64 0, .int .i64 0] 26)) := by
   unfold execOp
   rw [ho]
   kernel_rfl
  unfold Oper.wp
  rw [e]
  exact hK _ _ (h _ (Row.new _ _ _) ((Below.refl _ _).alloc (Nat.le_refl _) _))
theorem zJl (hgd : op.guard = none) (ho : op.op = .store 26 p q) (hx : a.eval p = .pointer (some ⟨g, 0, none⟩)) (hy : a.eval q = r.val) (hr : TRow w g r0)
  (h : ∀ w', TRow w' g r → Onto g w w' → wpList Tryz.prog ops Q rest (a.put op.dst undef) w') : wpList Tryz.prog ops Q (op :: rest) a w :=
 zBf hgd _ p q ho hx hy hr zE2 rfl (by simp [Value.oneCell']) (fun w' h1 h2 _ => h w' h1 h2)
theorem zGp (hgd : op.guard = none) (ho : op.op = .load 26 p) (hx : a.eval p = .pointer (some ⟨g, 0, none⟩)) (hr : TRow w g r) (h : wpList Tryz.prog ops Q rest (a.put op.dst r.val) w) : wpList Tryz.prog ops Q (op :: rest) a w :=
 zF9 hgd _ p ho hx hr Tryz.underlying26 rfl zE2 h
end
theorem zEh : Plain 26 := ⟨by decide, by decide⟩
def Stpd (base : Nat) (w w' : World) (e : Ending) (x y : Value) (r : St × Bool) : Prop :=
 Tame base w w' ∧ ((r.2 = true ∧ ∃ vo ve, e = .returned (.tuple #[r.1.val x y vo ve, .bool true]) ∧ So base w' x y vo ve r.1) ∨ (r.2 = false ∧ e = .returned (.tuple #[St.nul.val zY zY zY zY, .bool false])))
def Mc.step' (m : Mc) (l : List M3) : St × Bool := if m.fin ≤ 999999900 then (m.stepped l, true) else (St.nul, false)
set_option maxHeartbeats 4000000 in
theorem zGs (v vi x y : Value) (m : Mc) (l : List M3) (w : World) (base : Nat) (hv : v = m.val x y) (h : Ow base w x y m) (hok : m.ok = true) (hs : SlF fM w vi l) (hvi : 0 < l.length → ∀ k, vi.ownBlock = some k → k < base) (hl : qH l = true) :
  Calls Tryz.prog 65 #[v, vi] w fun e w' => Stpd base w w' e x y (m.step' l) := by
 have hlen := zCu hl
 have hT : ∀ i, i < l.length → 0 ≤ (M3.at' l i).t ∧ (M3.at' l i).t ≤ 1000000100 := fun i hi => by
  have := zFm hl hi
  simp only [M3.ok, Bool.and_eq_true] at this
  exact qU this.1
 have hle := h.le
 have hkk : 0 ≤ m.k ∧ m.k ≤ 1000000000 := by
  have h1 := (okm.1 hok).k
  have h2 := (Tm.ok_true (okm.1 hok).t).1
  omega
 obtain ⟨gy, cy, hy, hgb, hgl, -, -⟩ := h.hy.block (by have := (okm.1 hok).len; omega)
 have hgy : y.ownBlock = some gy := by rw [hy]; rfl
 clear hy
 obtain ⟨r, HX⟩ : ∃ r, Hid (r = m.step' l) := ⟨_, show _ = _ from rfl⟩
 rw [← HX.out]
 obtain ⟨M1, C, hC⟩ : ∃ M1 C, m.call = (M1, C) := ⟨_, _, rfl⟩
 have hok1 : M1.ok = true := by have := (zGg hok).1; rwa [hC] at this
 have HC : Hid (m.call = (M1, C)) := hC
 clear hC hl
 by_cases hc : C < 0
 ·obtain ⟨M2, K, U, hR⟩ : ∃ M2 K U, M1.exec = (M2, K, U) := ⟨_, _, _, rfl⟩
  have hK : 1 ≤ K ∧ K ≤ 4 := by have := zIl M1; rwa [hR] at this
  have HR : Hid (M1.exec = (M2, K, U)) := hR
  clear hR
  by_cases hu : 0 ≤ U
  ·have HTU : Hid (m.turn = (M2, K, [⟨m.k + K, 1, U⟩])) := show _ = _ by
    unfold Mc.turn
    rw [HC.out, HR.out]
    simp [hc, hu]
   have hfin : m.fin = m.k + K := by unfold Mc.fin; rw [HTU.out]
   by_cases hf : m.k + K ≤ 999999900
   ·have hX : r = (m.stepped l, true) := by rw [HX.out]; unfold Mc.step'; rw [hfin, if_pos hf]
    obtain ⟨S1, hS1⟩ : ∃ S1, ((⟨M2, [], [⟨m.k + K, 1, U⟩], 0⟩ : St)).evs l (m.k + K) = S1 := ⟨_, rfl⟩
    obtain ⟨TA, RD, hTA⟩ : ∃ TA RD, S1.m.t.after K = (TA, RD) := ⟨_, _, rfl⟩
    have hQ : m.stepped l = { S1 with m := { S1.m with t := TA, k := m.k + K, fl := if 0 < RD then bits .or .i64 S1.m.fl 1 else S1.m.fl } } := by
     unfold Mc.stepped St.first St.closed
     rw [hfin, HTU.out]
     show (_ : St) = _
     rw [hS1, hTA]
    have HX : Hid (r = (m.stepped l, true)) := hX
    have HS1 : Hid (((⟨M2, [], [⟨m.k + K, 1, U⟩], 0⟩ : St)).evs l (m.k + K) = S1) := hS1
    have HT : Hid (S1.m.t.after K = (TA, RD)) := hTA
    clear hX hS1 hTA hfin
    by_cases hrd : 0 < RD
    ·have HQ : Hid ({ S1 with m := { S1.m with t := TA, k := m.k + K, fl := bits .or .i64 S1.m.fl 1 } } = m.stepped l) := show _ = _ by rw [hQ, if_pos hrd]
     clear hQ
     go_enter Tryz.func65, Tryz.ntmps65
     go_wp2_with (first
      | (refine zP rfl rfl hv ?_; intro w0 r0 hb0; have lr0 := r0.lt; have O0 := h.below hb0; have K0 : Tame base w w0 := zV (Tame.refl base w) hle hb0; have L0 : base ≤ w0.heap.size := O0.le)
      | (refine xV rfl rfl ?_; intro w1 z1 hb1; have r1 := r0.below hb1; have O1 := O0.below hb1; have K1 := zV K0 L0 hb1; have L1 := O1.le; have lz1 := z1.lt; have ck : w1.cell? ⟨w.heap.size, 24, none⟩ = some (.int .i64 m.k) := (cw r1).k)
      | (refine zI rfl rfl rfl r1 ?_)
      | (go_at_call 150; refine (jN rfl O1 hok).mono ?_; rw [HC.out]; rintro e w2 ⟨rfl, O2x, bt2⟩; have O2 : Ow base w2 x y M1 := O2x; clear O2x; have n2 := bt2 gy hgy; clear ck; have z2 := z1.onto n2 (by omega); have K2 := zAx K1 h.hy hgy n2; have sz2 := n2.size; have L2 : base ≤ w2.heap.size := Nat.le_trans L1 sz2; have lz2 := z2.lt)
      | (refine zR rfl rfl ?_; intro w3 q3 hb3; have z3 := z2.below hb3; have O3 := O2.below hb3; have K3 := zV K2 L2 hb3; have sz3 := hb3.size; have L3 : base ≤ w3.heap.size := Nat.le_trans L2 sz3; have lz3 := z3.lt; have lq3 := q3.lt)
      | (refine zL rfl rfl rfl rfl q3 (zB O3.hx) (zB O3.hy) ?_; rintro w4 q4 o4 -; have z4 := z3.onto o4 (by omega); have O4 := O3.at o4 (zF O3.hx q3 (by decide)) (zF O3.hy q3 (by decide)); have K4 := zW K3 o4 (by omega) L3; have sz4 := o4.size; have L4 : base ≤ w4.heap.size := Nat.le_trans L3 sz4; have lz4 := z4.lt; have lq4 := q4.lt)
      | (refine zI rfl rfl rfl q4 ?_)
      | (refine zEu rfl rfl rfl ?_)
      | (refine xV rfl rfl ?_; intro w5 S5 hb5; have z5 := z4.below hb5; have O5 := O4.below hb5; have q5 := q4.below hb5; have K5 := zV K4 L4 hb5; have sz5 := hb5.size; have L5 : base ≤ w5.heap.size := Nat.le_trans L4 sz5; have lz5 := z5.lt; have lq5 := q5.lt; have lS5 := S5.lt)
      | (refine st_s rfl rfl rfl rfl S5 (zB O5.hx) (zB O5.hy) rfl rfl ?_; rintro w6 S6 o6 -; have z6 := z5.onto o6 (by omega); have O6 := O5.at o6 (zF O5.hx S5 (by decide)) (zF O5.hy S5 (by decide)); have q6 := q5.onto o6 (by omega); have K6 := zW K5 o6 (by omega) L5; have sz6 := o6.size; have L6 : base ≤ w6.heap.size := Nat.le_trans L5 sz6; have lz6 := z6.lt; have lq6 := q6.lt; have lS6 := S6.lt; have ke6 := (sw S6).e)
      | (refine zI rfl rfl rfl q6 ?_)
      | (go_at_call 151; refine (zBk rfl O6 hok1).mono ?_; rw [HR.out]; rintro e w7 ⟨rfl, O7x, bt7⟩; have O7 : Ow base w7 x y M2 := O7x; clear O7x; have n7 := bt7 gy hgy; clear ke6; have z7 := z6.onto n7 (by omega); have q7 := q6.onto n7 (by omega); have S7 := S6.onto n7 (by omega); have K7 := zAx K6 h.hy hgy n7; have sz7 := n7.size; have L7 : base ≤ w7.heap.size := Nat.le_trans L6 sz7; have lz7 := z7.lt; have lq7 := q7.lt; have lS7 := S7.lt)
      | (refine zR rfl rfl ?_; intro w8 p8 hb8; have z8 := z7.below hb8; have O8 := O7.below hb8; have q8 := q7.below hb8; have S8 := S7.below hb8; have K8 := zV K7 L7 hb8; have sz8 := hb8.size; have L8 : base ≤ w8.heap.size := Nat.le_trans L7 sz8; have lz8 := z8.lt; have lq8 := q8.lt; have lS8 := S8.lt; have lp8 := p8.lt)
      | (refine zL rfl rfl rfl rfl p8 (zB O8.hx) (zB O8.hy) ?_; rintro w9 p9 o9 -; have z9 := z8.onto o9 (by omega); have O9 := O8.at o9 (zF O8.hx p8 (by decide)) (zF O8.hy p8 (by decide)); have q9 := q8.onto o9 (by omega); have S9 := S8.onto o9 (by omega); have K9 := zW K8 o9 (by omega) L8; have sz9 := o9.size; have L9 : base ≤ w9.heap.size := Nat.le_trans L8 sz9; have lz9 := z9.lt; have lq9 := q9.lt; have lS9 := S9.lt; have lp9 := p9.lt)
      | (refine zI rfl rfl rfl p9 ?_)
      | (refine zJn rfl rfl rfl rfl S9 (zB O9.hx) (zB O9.hy) ?_; rintro w10 S10 o10 -; have z10 := z9.onto o10 (by omega); have O10 := O9.at o10 (zF O9.hx S9 (by decide)) (zF O9.hy S9 (by decide)); have q10 := q9.onto o10 (by omega); have p10 := p9.onto o10 (by omega); have K10 := zW K9 o10 (by omega) L9; have sz10 := o10.size; have L10 : base ≤ w10.heap.size := Nat.le_trans L9 sz10; have lz10 := z10.lt; have lq10 := q10.lt; have lS10 := S10.lt; have lp10 := p10.lt; have ke10 := (sw S10).e; have hal : Below w10.heap.size w10 (w10.alloc (.cells #[.int .i64 (m.k + K), .int .i64 1, .int .i64 U] 82)) := (Below.refl _ _).alloc (Nat.le_refl _) _; have hlit := xO fE okE w10.heap.size w10 #[.int .i64 (m.k + K), .int .i64 1, .int .i64 U] [⟨m.k + K, 1, U⟩] rfl (by unfold maxLen; simp) (Nat.le_refl _); have zl := z10.below hal; have Sl' := S10.below hal; have Ol := O10.below hal; have Kl := zV K10 L10 hal; have Ll := Ol.le)
      | (at_builtin; refine appF okE rfl (.tmp 40) (.tmp 46) rfl base [] [⟨m.k + K, 1, U⟩] (OwnF.nil _ _ _) (hlit.sl okE) (by simp) (by omega) ?_; intro v11 w11 E11 hg11; have t11 := Mild.grown (base := base) vT (OwnF.nil fE base _) hg11; have z11 := t11.row zl zJ; have S11 := t11.row Sl' zJ; have O11 := t11.ow Ol; have K11 := zAt Kl Ll t11; have sz11 := t11.size; have L11 := O11.le; have lz11 := z11.lt; have lS11 := S11.lt)
      | (refine zHn (l := [⟨m.k + K, 1, U⟩]) rfl rfl rfl rfl S11 (E11.one okE) ?_; rintro w12 S12 o12 -; have z12 := z11.onto o12 (by omega); have O12 := O11.at o12 (zF O11.hx S11 (by decide)) (zF O11.hy S11 (by decide)); have E12 := E11.onto o12 (E11.not_row S11 (by decide)); have K12 := zW K11 o12 (by omega) L11; have sz12 := o12.size; have L12 : base ≤ w12.heap.size := Nat.le_trans L11 sz12; have lz12 := z12.lt; have lS12 := S12.lt; have Y12 : So base w12 x y zY v11 (⟨M2, [], [⟨m.k + K, 1, U⟩], 0⟩) := ⟨O12, OwnF.nil _ _ _, E12⟩; have hs12 := zFx hs hvi K12)
      | (refine vP rfl rfl rfl S12 ?_)
      | (go_at_call 152; refine (vN _ _ x y zY v11 (⟨M2, [], [⟨m.k + K, 1, U⟩], 0⟩) l _ _ base rfl Y12 hs12 hvi hlen hT rfl (by simp) (by simp)).mono ?_; rw [HS1.out]; rintro e w13 ⟨vo1, ve1, rfl, Y13, t13⟩; have z13 := t13.row z12 zJ; have S13 := t13.row S12 zJ; have K13 := zAt K12 L12 t13; have sz13 := t13.size; have L13 := Y13.ow.le; have lz13 := z13.lt; have lS13 := S13.lt)
      | (refine st_s rfl rfl rfl rfl S13 (zB Y13.ow.hx) (zB Y13.ow.hy) (Y13.o.one okM) (Y13.e.one okE) ?_; rintro w14 S14 o14 -; have z14 := z13.onto o14 (by omega); have Y14 := Y13.row o14 S13 zJ (by decide); have K14 := zW K13 o14 (by omega) L13; have sz14 := o14.size; have L14 : base ≤ w14.heap.size := Nat.le_trans L13 sz14; have lz14 := z14.lt; have lS14 := S14.lt)
      | (refine zJ0 rfl rfl rfl S14 ?_)
      | (go_at_call 153; refine (jL S1.m.t K _).mono ?_; rw [HT.out]; rintro e w15 ⟨rfl, hb15⟩; have z15 := z14.below hb15; have S15 := S14.below hb15; have Y15 := Y14.below hb15; have K15 := zV K14 L14 hb15; have sz15 := hb15.size; have L15 : base ≤ w15.heap.size := Nat.le_trans L14 sz15; have lz15 := z15.lt; have lS15 := S15.lt)
      | (refine al_t rfl rfl ?_; intro w16 t16 hb16; have z16 := z15.below hb16; have S16 := S15.below hb16; have Y16 := Y15.below hb16; have K16 := zV K15 L15 hb16; have sz16 := hb16.size; have L16 : base ≤ w16.heap.size := Nat.le_trans L15 sz16; have lz16 := z16.lt; have lS16 := S16.lt; have lt16 := t16.lt)
      | (refine zJl rfl rfl rfl rfl t16 ?_; rintro w17 t17 o17; have z17 := z16.onto o17 (by omega); have S17 := S16.onto o17 (by omega); have Y17 := Y16.row o17 t16 zEh (by decide); have K17 := zW K16 o17 (by omega) L16; have sz17 := o17.size; have L17 : base ≤ w17.heap.size := Nat.le_trans L16 sz17; have lz17 := z17.lt; have lS17 := S17.lt; have lt17 := t17.lt)
      | (refine zGp rfl rfl rfl t17 ?_)
      | (refine zJm rfl rfl rfl rfl S17 ?_; rintro w18 S18 o18 -; have z18 := z17.onto o18 (by omega); have K18 := zW K17 o18 (by omega) L17; have sz18 := o18.size; have L18 : base ≤ w18.heap.size := Nat.le_trans L17 sz18; have lz18 := z18.lt; have lS18 := S18.lt; have Y18 := (Y17.row o18 S17 zJ (by decide)).as (s' := { S1 with m := { S1.m with t := TA } }) rfl rfl rfl rfl)
      | (refine zCd (s' := { S1 with m := { S1.m with t := TA, k := m.k + K } }) rfl rfl rfl rfl S18 rfl rfl ?_; rintro w19 S19 o19 -; have z19 := z18.onto o19 (by omega); have K19 := zW K18 o19 (by omega) L18; have sz19 := o19.size; have L19 : base ≤ w19.heap.size := Nat.le_trans L18 sz19; have lz19 := z19.lt; have lS19 := S19.lt; have Y19 := (Y18.row o19 S18 zJ (by decide)).as (s' := { S1 with m := { S1.m with t := TA, k := m.k + K } }) rfl rfl rfl rfl; have kf19 := (sw S19).fl)
      | (refine zCd (s' := { S1 with m := { S1.m with t := TA, k := m.k + K, fl := bits .or .i64 S1.m.fl 1 } }) rfl rfl rfl rfl S19 rfl rfl ?_; rintro w20 S20 o20 -; have z20 := z19.onto o20 (by omega); have K20 := zW K19 o20 (by omega) L19; have sz20 := o20.size; have L20 : base ≤ w20.heap.size := Nat.le_trans L19 sz20; have lz20 := z20.lt; have lS20 := S20.lt; have Y20 := (Y19.row o20 S19 zJ (by decide)).as (s' := { S1 with m := { S1.m with t := TA, k := m.k + K, fl := bits .or .i64 S1.m.fl 1 } }) rfl rfl rfl rfl)
      | (refine vP rfl rfl rfl S20 ?_)
      | (refine st_s rfl rfl rfl rfl z20 (zB Y20.ow.hx) (zB Y20.ow.hy) (Y20.o.one okM) (Y20.e.one okE) ?_; rintro wa za oa -; have Ka := zW K20 oa (by omega) L20; have Ya := Y20.row oa z20 zJ (by decide)))
     refine vQ rfl rfl za rfl rfl ?_
     rw [HX.out]
     exact ⟨Ka, .inl ⟨rfl, vo1, ve1, by rw [← HQ.out]; rfl, by rw [← HQ.out]; exact Ya⟩⟩
    ·have HQ : Hid ({ S1 with m := { S1.m with t := TA, k := m.k + K } } = m.stepped l) := show _ = _ by rw [hQ, if_neg hrd]
     clear hQ
     go_enter Tryz.func65, Tryz.ntmps65
     go_wp2_with (first
      | (refine zP rfl rfl hv ?_; intro w0 r0 hb0; have lr0 := r0.lt; have O0 := h.below hb0; have K0 : Tame base w w0 := zV (Tame.refl base w) hle hb0; have L0 : base ≤ w0.heap.size := O0.le)
      | (refine xV rfl rfl ?_; intro w1 z1 hb1; have r1 := r0.below hb1; have O1 := O0.below hb1; have K1 := zV K0 L0 hb1; have L1 := O1.le; have lz1 := z1.lt; have ck : w1.cell? ⟨w.heap.size, 24, none⟩ = some (.int .i64 m.k) := (cw r1).k)
      | (refine zI rfl rfl rfl r1 ?_)
      | (go_at_call 150; refine (jN rfl O1 hok).mono ?_; rw [HC.out]; rintro e w2 ⟨rfl, O2x, bt2⟩; have O2 : Ow base w2 x y M1 := O2x; clear O2x; have n2 := bt2 gy hgy; clear ck; have z2 := z1.onto n2 (by omega); have K2 := zAx K1 h.hy hgy n2; have sz2 := n2.size; have L2 : base ≤ w2.heap.size := Nat.le_trans L1 sz2; have lz2 := z2.lt)
      | (refine zR rfl rfl ?_; intro w3 q3 hb3; have z3 := z2.below hb3; have O3 := O2.below hb3; have K3 := zV K2 L2 hb3; have sz3 := hb3.size; have L3 : base ≤ w3.heap.size := Nat.le_trans L2 sz3; have lz3 := z3.lt; have lq3 := q3.lt)
      | (refine zL rfl rfl rfl rfl q3 (zB O3.hx) (zB O3.hy) ?_; rintro w4 q4 o4 -; have z4 := z3.onto o4 (by omega); have O4 := O3.at o4 (zF O3.hx q3 (by decide)) (zF O3.hy q3 (by decide)); have K4 := zW K3 o4 (by omega) L3; have sz4 := o4.size; have L4 : base ≤ w4.heap.size := Nat.le_trans L3 sz4; have lz4 := z4.lt; have lq4 := q4.lt)
      | (refine zI rfl rfl rfl q4 ?_)
      | (refine zEu rfl rfl rfl ?_)
      | (refine xV rfl rfl ?_; intro w5 S5 hb5; have z5 := z4.below hb5; have O5 := O4.below hb5; have q5 := q4.below hb5; have K5 := zV K4 L4 hb5; have sz5 := hb5.size; have L5 : base ≤ w5.heap.size := Nat.le_trans L4 sz5; have lz5 := z5.lt; have lq5 := q5.lt; have lS5 := S5.lt)
      | (refine st_s rfl rfl rfl rfl S5 (zB O5.hx) (zB O5.hy) rfl rfl ?_; rintro w6 S6 o6 -; have z6 := z5.onto o6 (by omega); have O6 := O5.at o6 (zF O5.hx S5 (by decide)) (zF O5.hy S5 (by decide)); have q6 := q5.onto o6 (by omega); have K6 := zW K5 o6 (by omega) L5; have sz6 := o6.size; have L6 : base ≤ w6.heap.size := Nat.le_trans L5 sz6; have lz6 := z6.lt; have lq6 := q6.lt; have lS6 := S6.lt; have ke6 := (sw S6).e)
      | (refine zI rfl rfl rfl q6 ?_)
      | (go_at_call 151; refine (zBk rfl O6 hok1).mono ?_; rw [HR.out]; rintro e w7 ⟨rfl, O7x, bt7⟩; have O7 : Ow base w7 x y M2 := O7x; clear O7x; have n7 := bt7 gy hgy; clear ke6; have z7 := z6.onto n7 (by omega); have q7 := q6.onto n7 (by omega); have S7 := S6.onto n7 (by omega); have K7 := zAx K6 h.hy hgy n7; have sz7 := n7.size; have L7 : base ≤ w7.heap.size := Nat.le_trans L6 sz7; have lz7 := z7.lt; have lq7 := q7.lt; have lS7 := S7.lt)
      | (refine zR rfl rfl ?_; intro w8 p8 hb8; have z8 := z7.below hb8; have O8 := O7.below hb8; have q8 := q7.below hb8; have S8 := S7.below hb8; have K8 := zV K7 L7 hb8; have sz8 := hb8.size; have L8 : base ≤ w8.heap.size := Nat.le_trans L7 sz8; have lz8 := z8.lt; have lq8 := q8.lt; have lS8 := S8.lt; have lp8 := p8.lt)
      | (refine zL rfl rfl rfl rfl p8 (zB O8.hx) (zB O8.hy) ?_; rintro w9 p9 o9 -; have z9 := z8.onto o9 (by omega); have O9 := O8.at o9 (zF O8.hx p8 (by decide)) (zF O8.hy p8 (by decide)); have q9 := q8.onto o9 (by omega); have S9 := S8.onto o9 (by omega); have K9 := zW K8 o9 (by omega) L8; have sz9 := o9.size; have L9 : base ≤ w9.heap.size := Nat.le_trans L8 sz9; have lz9 := z9.lt; have lq9 := q9.lt; have lS9 := S9.lt; have lp9 := p9.lt)
      | (refine zI rfl rfl rfl p9 ?_)
      | (refine zJn rfl rfl rfl rfl S9 (zB O9.hx) (zB O9.hy) ?_; rintro w10 S10 o10 -; have z10 := z9.onto o10 (by omega); have O10 := O9.at o10 (zF O9.hx S9 (by decide)) (zF O9.hy S9 (by decide)); have q10 := q9.onto o10 (by omega); have p10 := p9.onto o10 (by omega); have K10 := zW K9 o10 (by omega) L9; have sz10 := o10.size; have L10 : base ≤ w10.heap.size := Nat.le_trans L9 sz10; have lz10 := z10.lt; have lq10 := q10.lt; have lS10 := S10.lt; have lp10 := p10.lt; have ke10 := (sw S10).e; have hal : Below w10.heap.size w10 (w10.alloc (.cells #[.int .i64 (m.k + K), .int .i64 1, .int .i64 U] 82)) := (Below.refl _ _).alloc (Nat.le_refl _) _; have hlit := xO fE okE w10.heap.size w10 #[.int .i64 (m.k + K), .int .i64 1, .int .i64 U] [⟨m.k + K, 1, U⟩] rfl (by unfold maxLen; simp) (Nat.le_refl _); have zl := z10.below hal; have Sl' := S10.below hal; have Ol := O10.below hal; have Kl := zV K10 L10 hal; have Ll := Ol.le)
      | (at_builtin; refine appF okE rfl (.tmp 40) (.tmp 46) rfl base [] [⟨m.k + K, 1, U⟩] (OwnF.nil _ _ _) (hlit.sl okE) (by simp) (by omega) ?_; intro v11 w11 E11 hg11; have t11 := Mild.grown (base := base) vT (OwnF.nil fE base _) hg11; have z11 := t11.row zl zJ; have S11 := t11.row Sl' zJ; have O11 := t11.ow Ol; have K11 := zAt Kl Ll t11; have sz11 := t11.size; have L11 := O11.le; have lz11 := z11.lt; have lS11 := S11.lt)
      | (refine zHn (l := [⟨m.k + K, 1, U⟩]) rfl rfl rfl rfl S11 (E11.one okE) ?_; rintro w12 S12 o12 -; have z12 := z11.onto o12 (by omega); have O12 := O11.at o12 (zF O11.hx S11 (by decide)) (zF O11.hy S11 (by decide)); have E12 := E11.onto o12 (E11.not_row S11 (by decide)); have K12 := zW K11 o12 (by omega) L11; have sz12 := o12.size; have L12 : base ≤ w12.heap.size := Nat.le_trans L11 sz12; have lz12 := z12.lt; have lS12 := S12.lt; have Y12 : So base w12 x y zY v11 (⟨M2, [], [⟨m.k + K, 1, U⟩], 0⟩) := ⟨O12, OwnF.nil _ _ _, E12⟩; have hs12 := zFx hs hvi K12)
      | (refine vP rfl rfl rfl S12 ?_)
      | (go_at_call 152; refine (vN _ _ x y zY v11 (⟨M2, [], [⟨m.k + K, 1, U⟩], 0⟩) l _ _ base rfl Y12 hs12 hvi hlen hT rfl (by simp) (by simp)).mono ?_; rw [HS1.out]; rintro e w13 ⟨vo1, ve1, rfl, Y13, t13⟩; have z13 := t13.row z12 zJ; have S13 := t13.row S12 zJ; have K13 := zAt K12 L12 t13; have sz13 := t13.size; have L13 := Y13.ow.le; have lz13 := z13.lt; have lS13 := S13.lt)
      | (refine st_s rfl rfl rfl rfl S13 (zB Y13.ow.hx) (zB Y13.ow.hy) (Y13.o.one okM) (Y13.e.one okE) ?_; rintro w14 S14 o14 -; have z14 := z13.onto o14 (by omega); have Y14 := Y13.row o14 S13 zJ (by decide); have K14 := zW K13 o14 (by omega) L13; have sz14 := o14.size; have L14 : base ≤ w14.heap.size := Nat.le_trans L13 sz14; have lz14 := z14.lt; have lS14 := S14.lt)
      | (refine zJ0 rfl rfl rfl S14 ?_)
      | (go_at_call 153; refine (jL S1.m.t K _).mono ?_; rw [HT.out]; rintro e w15 ⟨rfl, hb15⟩; have z15 := z14.below hb15; have S15 := S14.below hb15; have Y15 := Y14.below hb15; have K15 := zV K14 L14 hb15; have sz15 := hb15.size; have L15 : base ≤ w15.heap.size := Nat.le_trans L14 sz15; have lz15 := z15.lt; have lS15 := S15.lt)
      | (refine al_t rfl rfl ?_; intro w16 t16 hb16; have z16 := z15.below hb16; have S16 := S15.below hb16; have Y16 := Y15.below hb16; have K16 := zV K15 L15 hb16; have sz16 := hb16.size; have L16 : base ≤ w16.heap.size := Nat.le_trans L15 sz16; have lz16 := z16.lt; have lS16 := S16.lt; have lt16 := t16.lt)
      | (refine zJl rfl rfl rfl rfl t16 ?_; rintro w17 t17 o17; have z17 := z16.onto o17 (by omega); have S17 := S16.onto o17 (by omega); have Y17 := Y16.row o17 t16 zEh (by decide); have K17 := zW K16 o17 (by omega) L16; have sz17 := o17.size; have L17 : base ≤ w17.heap.size := Nat.le_trans L16 sz17; have lz17 := z17.lt; have lS17 := S17.lt; have lt17 := t17.lt)
      | (refine zGp rfl rfl rfl t17 ?_)
      | (refine zJm rfl rfl rfl rfl S17 ?_; rintro w18 S18 o18 -; have z18 := z17.onto o18 (by omega); have K18 := zW K17 o18 (by omega) L17; have sz18 := o18.size; have L18 : base ≤ w18.heap.size := Nat.le_trans L17 sz18; have lz18 := z18.lt; have lS18 := S18.lt; have Y18 := (Y17.row o18 S17 zJ (by decide)).as (s' := { S1 with m := { S1.m with t := TA } }) rfl rfl rfl rfl)
      | (refine zCd (s' := { S1 with m := { S1.m with t := TA, k := m.k + K } }) rfl rfl rfl rfl S18 rfl rfl ?_; rintro w19 S19 o19 -; have z19 := z18.onto o19 (by omega); have K19 := zW K18 o19 (by omega) L18; have sz19 := o19.size; have L19 : base ≤ w19.heap.size := Nat.le_trans L18 sz19; have lz19 := z19.lt; have lS19 := S19.lt; have Y19 := (Y18.row o19 S18 zJ (by decide)).as (s' := { S1 with m := { S1.m with t := TA, k := m.k + K } }) rfl rfl rfl rfl; have kf19 := (sw S19).fl)
      | (refine vP rfl rfl rfl S19 ?_)
      | (refine st_s rfl rfl rfl rfl z19 (zB Y19.ow.hx) (zB Y19.ow.hy) (Y19.o.one okM) (Y19.e.one okE) ?_; rintro wa za oa -; have Ka := zW K19 oa (by omega) L19; have Ya := Y19.row oa z19 zJ (by decide)))
     refine vQ rfl rfl za rfl rfl ?_
     rw [HX.out]
     exact ⟨Ka, .inl ⟨rfl, vo1, ve1, by rw [← HQ.out]; rfl, by rw [← HQ.out]; exact Ya⟩⟩
   ·have hX : r = (St.nul, false) := by rw [HX.out]; unfold Mc.step'; rw [hfin, if_neg hf]
    have HX : Hid (r = (St.nul, false)) := hX
    clear hX hfin
    go_enter Tryz.func65, Tryz.ntmps65
    go_wp2_with (first
     | (refine zP rfl rfl hv ?_; intro w0 r0 hb0; have lr0 := r0.lt; have O0 := h.below hb0; have K0 : Tame base w w0 := zV (Tame.refl base w) hle hb0; have L0 : base ≤ w0.heap.size := O0.le)
     | (refine xV rfl rfl ?_; intro w1 z1 hb1; have r1 := r0.below hb1; have O1 := O0.below hb1; have K1 := zV K0 L0 hb1; have L1 := O1.le; have lz1 := z1.lt; have ck : w1.cell? ⟨w.heap.size, 24, none⟩ = some (.int .i64 m.k) := (cw r1).k)
     | (refine zI rfl rfl rfl r1 ?_)
     | (go_at_call 150; refine (jN rfl O1 hok).mono ?_; rw [HC.out]; rintro e w2 ⟨rfl, O2x, bt2⟩; have O2 : Ow base w2 x y M1 := O2x; clear O2x; have n2 := bt2 gy hgy; clear ck; have z2 := z1.onto n2 (by omega); have K2 := zAx K1 h.hy hgy n2; have sz2 := n2.size; have L2 : base ≤ w2.heap.size := Nat.le_trans L1 sz2; have lz2 := z2.lt)
     | (refine zR rfl rfl ?_; intro w3 q3 hb3; have z3 := z2.below hb3; have O3 := O2.below hb3; have K3 := zV K2 L2 hb3; have sz3 := hb3.size; have L3 : base ≤ w3.heap.size := Nat.le_trans L2 sz3; have lz3 := z3.lt; have lq3 := q3.lt)
     | (refine zL rfl rfl rfl rfl q3 (zB O3.hx) (zB O3.hy) ?_; rintro w4 q4 o4 -; have z4 := z3.onto o4 (by omega); have O4 := O3.at o4 (zF O3.hx q3 (by decide)) (zF O3.hy q3 (by decide)); have K4 := zW K3 o4 (by omega) L3; have sz4 := o4.size; have L4 : base ≤ w4.heap.size := Nat.le_trans L3 sz4; have lz4 := z4.lt; have lq4 := q4.lt)
     | (refine zI rfl rfl rfl q4 ?_)
     | (refine zEu rfl rfl rfl ?_)
     | (refine xV rfl rfl ?_; intro w5 S5 hb5; have z5 := z4.below hb5; have O5 := O4.below hb5; have q5 := q4.below hb5; have K5 := zV K4 L4 hb5; have sz5 := hb5.size; have L5 : base ≤ w5.heap.size := Nat.le_trans L4 sz5; have lz5 := z5.lt; have lq5 := q5.lt; have lS5 := S5.lt)
     | (refine st_s rfl rfl rfl rfl S5 (zB O5.hx) (zB O5.hy) rfl rfl ?_; rintro w6 S6 o6 -; have z6 := z5.onto o6 (by omega); have O6 := O5.at o6 (zF O5.hx S5 (by decide)) (zF O5.hy S5 (by decide)); have q6 := q5.onto o6 (by omega); have K6 := zW K5 o6 (by omega) L5; have sz6 := o6.size; have L6 : base ≤ w6.heap.size := Nat.le_trans L5 sz6; have lz6 := z6.lt; have lq6 := q6.lt; have lS6 := S6.lt; have ke6 := (sw S6).e)
     | (refine zI rfl rfl rfl q6 ?_)
     | (go_at_call 151; refine (zBk rfl O6 hok1).mono ?_; rw [HR.out]; rintro e w7 ⟨rfl, O7x, bt7⟩; have O7 : Ow base w7 x y M2 := O7x; clear O7x; have n7 := bt7 gy hgy; clear ke6; have z7 := z6.onto n7 (by omega); have q7 := q6.onto n7 (by omega); have S7 := S6.onto n7 (by omega); have K7 := zAx K6 h.hy hgy n7; have sz7 := n7.size; have L7 : base ≤ w7.heap.size := Nat.le_trans L6 sz7; have lz7 := z7.lt; have lq7 := q7.lt; have lS7 := S7.lt)
     | (refine zR rfl rfl ?_; intro w8 p8 hb8; have z8 := z7.below hb8; have O8 := O7.below hb8; have q8 := q7.below hb8; have S8 := S7.below hb8; have K8 := zV K7 L7 hb8; have sz8 := hb8.size; have L8 : base ≤ w8.heap.size := Nat.le_trans L7 sz8; have lz8 := z8.lt; have lq8 := q8.lt; have lS8 := S8.lt; have lp8 := p8.lt)
     | (refine zL rfl rfl rfl rfl p8 (zB O8.hx) (zB O8.hy) ?_; rintro w9 p9 o9 -; have z9 := z8.onto o9 (by omega); have O9 := O8.at o9 (zF O8.hx p8 (by decide)) (zF O8.hy p8 (by decide)); have q9 := q8.onto o9 (by omega); have S9 := S8.onto o9 (by omega); have K9 := zW K8 o9 (by omega) L8; have sz9 := o9.size; have L9 : base ≤ w9.heap.size := Nat.le_trans L8 sz9; have lz9 := z9.lt; have lq9 := q9.lt; have lS9 := S9.lt; have lp9 := p9.lt)
     | (refine zI rfl rfl rfl p9 ?_)
     | (refine zJn rfl rfl rfl rfl S9 (zB O9.hx) (zB O9.hy) ?_; rintro w10 S10 o10 -; have z10 := z9.onto o10 (by omega); have O10 := O9.at o10 (zF O9.hx S9 (by decide)) (zF O9.hy S9 (by decide)); have q10 := q9.onto o10 (by omega); have p10 := p9.onto o10 (by omega); have K10 := zW K9 o10 (by omega) L9; have sz10 := o10.size; have L10 : base ≤ w10.heap.size := Nat.le_trans L9 sz10; have lz10 := z10.lt; have lq10 := q10.lt; have lS10 := S10.lt; have lp10 := p10.lt; have ke10 := (sw S10).e; have hal : Below w10.heap.size w10 (w10.alloc (.cells #[.int .i64 (m.k + K), .int .i64 1, .int .i64 U] 82)) := (Below.refl _ _).alloc (Nat.le_refl _) _; have hlit := xO fE okE w10.heap.size w10 #[.int .i64 (m.k + K), .int .i64 1, .int .i64 U] [⟨m.k + K, 1, U⟩] rfl (by unfold maxLen; simp) (Nat.le_refl _); have zl := z10.below hal; have Sl' := S10.below hal; have Ol := O10.below hal; have Kl := zV K10 L10 hal; have Ll := Ol.le)
     | (at_builtin; refine appF okE rfl (.tmp 40) (.tmp 46) rfl base [] [⟨m.k + K, 1, U⟩] (OwnF.nil _ _ _) (hlit.sl okE) (by simp) (by omega) ?_; intro v11 w11 E11 hg11; have t11 := Mild.grown (base := base) vT (OwnF.nil fE base _) hg11; have z11 := t11.row zl zJ; have S11 := t11.row Sl' zJ; have O11 := t11.ow Ol; have K11 := zAt Kl Ll t11; have sz11 := t11.size; have L11 := O11.le; have lz11 := z11.lt; have lS11 := S11.lt)
     | (refine zHn (l := [⟨m.k + K, 1, U⟩]) rfl rfl rfl rfl S11 (E11.one okE) ?_; rintro w12 S12 o12 -; have z12 := z11.onto o12 (by omega); have O12 := O11.at o12 (zF O11.hx S11 (by decide)) (zF O11.hy S11 (by decide)); have E12 := E11.onto o12 (E11.not_row S11 (by decide)); have K12 := zW K11 o12 (by omega) L11; have sz12 := o12.size; have L12 : base ≤ w12.heap.size := Nat.le_trans L11 sz12; have lz12 := z12.lt; have lS12 := S12.lt)
     | (refine zFr rfl rfl ?_)
     | (refine st_s rfl rfl rfl rfl z12 rfl rfl rfl rfl ?_; rintro wa za oa -; have Ka := zW K12 oa (by omega) L12))
    refine vQ rfl rfl za rfl rfl ?_
    rw [HX.out]
    exact ⟨Ka, .inr ⟨rfl, rfl⟩⟩
  ·have HTU : Hid (m.turn = (M2, K, [])) := show _ = _ by
    unfold Mc.turn
    rw [HC.out, HR.out]
    simp [hc, hu]
   have hfin : m.fin = m.k + K := by unfold Mc.fin; rw [HTU.out]
   by_cases hf : m.k + K ≤ 999999900
   ·have hX : r = (m.stepped l, true) := by rw [HX.out]; unfold Mc.step'; rw [hfin, if_pos hf]
    obtain ⟨S1, hS1⟩ : ∃ S1, ((⟨M2, [], [], 0⟩ : St)).evs l (m.k + K) = S1 := ⟨_, rfl⟩
    obtain ⟨TA, RD, hTA⟩ : ∃ TA RD, S1.m.t.after K = (TA, RD) := ⟨_, _, rfl⟩
    have hQ : m.stepped l = { S1 with m := { S1.m with t := TA, k := m.k + K, fl := if 0 < RD then bits .or .i64 S1.m.fl 1 else S1.m.fl } } := by
     unfold Mc.stepped St.first St.closed
     rw [hfin, HTU.out]
     show (_ : St) = _
     rw [hS1, hTA]
    have HX : Hid (r = (m.stepped l, true)) := hX
    have HS1 : Hid (((⟨M2, [], [], 0⟩ : St)).evs l (m.k + K) = S1) := hS1
    have HT : Hid (S1.m.t.after K = (TA, RD)) := hTA
    clear hX hS1 hTA hfin
    by_cases hrd : 0 < RD
    ·have HQ : Hid ({ S1 with m := { S1.m with t := TA, k := m.k + K, fl := bits .or .i64 S1.m.fl 1 } } = m.stepped l) := show _ = _ by rw [hQ, if_pos hrd]
     clear hQ
     go_enter Tryz.func65, Tryz.ntmps65
     go_wp2_with (first
      | (refine zP rfl rfl hv ?_; intro w0 r0 hb0; have lr0 := r0.lt; have O0 := h.below hb0; have K0 : Tame base w w0 := zV (Tame.refl base w) hle hb0; have L0 : base ≤ w0.heap.size := O0.le)
      | (refine xV rfl rfl ?_; intro w1 z1 hb1; have r1 := r0.below hb1; have O1 := O0.below hb1; have K1 := zV K0 L0 hb1; have L1 := O1.le; have lz1 := z1.lt; have ck : w1.cell? ⟨w.heap.size, 24, none⟩ = some (.int .i64 m.k) := (cw r1).k)
      | (refine zI rfl rfl rfl r1 ?_)
      | (go_at_call 150; refine (jN rfl O1 hok).mono ?_; rw [HC.out]; rintro e w2 ⟨rfl, O2x, bt2⟩; have O2 : Ow base w2 x y M1 := O2x; clear O2x; have n2 := bt2 gy hgy; clear ck; have z2 := z1.onto n2 (by omega); have K2 := zAx K1 h.hy hgy n2; have sz2 := n2.size; have L2 : base ≤ w2.heap.size := Nat.le_trans L1 sz2; have lz2 := z2.lt)
      | (refine zR rfl rfl ?_; intro w3 q3 hb3; have z3 := z2.below hb3; have O3 := O2.below hb3; have K3 := zV K2 L2 hb3; have sz3 := hb3.size; have L3 : base ≤ w3.heap.size := Nat.le_trans L2 sz3; have lz3 := z3.lt; have lq3 := q3.lt)
      | (refine zL rfl rfl rfl rfl q3 (zB O3.hx) (zB O3.hy) ?_; rintro w4 q4 o4 -; have z4 := z3.onto o4 (by omega); have O4 := O3.at o4 (zF O3.hx q3 (by decide)) (zF O3.hy q3 (by decide)); have K4 := zW K3 o4 (by omega) L3; have sz4 := o4.size; have L4 : base ≤ w4.heap.size := Nat.le_trans L3 sz4; have lz4 := z4.lt; have lq4 := q4.lt)
      | (refine zI rfl rfl rfl q4 ?_)
      | (refine zEu rfl rfl rfl ?_)
      | (refine xV rfl rfl ?_; intro w5 S5 hb5; have z5 := z4.below hb5; have O5 := O4.below hb5; have q5 := q4.below hb5; have K5 := zV K4 L4 hb5; have sz5 := hb5.size; have L5 : base ≤ w5.heap.size := Nat.le_trans L4 sz5; have lz5 := z5.lt; have lq5 := q5.lt; have lS5 := S5.lt)
      | (refine st_s rfl rfl rfl rfl S5 (zB O5.hx) (zB O5.hy) rfl rfl ?_; rintro w6 S6 o6 -; have z6 := z5.onto o6 (by omega); have O6 := O5.at o6 (zF O5.hx S5 (by decide)) (zF O5.hy S5 (by decide)); have q6 := q5.onto o6 (by omega); have K6 := zW K5 o6 (by omega) L5; have sz6 := o6.size; have L6 : base ≤ w6.heap.size := Nat.le_trans L5 sz6; have lz6 := z6.lt; have lq6 := q6.lt; have lS6 := S6.lt; have ke6 := (sw S6).e)
      | (refine zI rfl rfl rfl q6 ?_)
      | (go_at_call 151; refine (zBk rfl O6 hok1).mono ?_; rw [HR.out]; rintro e w7 ⟨rfl, O7x, bt7⟩; have O7 : Ow base w7 x y M2 := O7x; clear O7x; have n7 := bt7 gy hgy; clear ke6; have z7 := z6.onto n7 (by omega); have q7 := q6.onto n7 (by omega); have S7 := S6.onto n7 (by omega); have K7 := zAx K6 h.hy hgy n7; have sz7 := n7.size; have L7 : base ≤ w7.heap.size := Nat.le_trans L6 sz7; have lz7 := z7.lt; have lq7 := q7.lt; have lS7 := S7.lt)
      | (refine zR rfl rfl ?_; intro w8 p8 hb8; have z8 := z7.below hb8; have O8 := O7.below hb8; have q8 := q7.below hb8; have S8 := S7.below hb8; have K8 := zV K7 L7 hb8; have sz8 := hb8.size; have L8 : base ≤ w8.heap.size := Nat.le_trans L7 sz8; have lz8 := z8.lt; have lq8 := q8.lt; have lS8 := S8.lt; have lp8 := p8.lt)
      | (refine zL rfl rfl rfl rfl p8 (zB O8.hx) (zB O8.hy) ?_; rintro w9 p9 o9 -; have z9 := z8.onto o9 (by omega); have O9 := O8.at o9 (zF O8.hx p8 (by decide)) (zF O8.hy p8 (by decide)); have q9 := q8.onto o9 (by omega); have S9 := S8.onto o9 (by omega); have K9 := zW K8 o9 (by omega) L8; have sz9 := o9.size; have L9 : base ≤ w9.heap.size := Nat.le_trans L8 sz9; have lz9 := z9.lt; have lq9 := q9.lt; have lS9 := S9.lt; have lp9 := p9.lt)
      | (refine zI rfl rfl rfl p9 ?_)
      | (refine zJn rfl rfl rfl rfl S9 (zB O9.hx) (zB O9.hy) ?_; rintro w10 S10 o10 -; have z10 := z9.onto o10 (by omega); have O10 := O9.at o10 (zF O9.hx S9 (by decide)) (zF O9.hy S9 (by decide)); have q10 := q9.onto o10 (by omega); have p10 := p9.onto o10 (by omega); have K10 := zW K9 o10 (by omega) L9; have sz10 := o10.size; have L10 : base ≤ w10.heap.size := Nat.le_trans L9 sz10; have lz10 := z10.lt; have lq10 := q10.lt; have lS10 := S10.lt; have lp10 := p10.lt; have ke10 := (sw S10).e; have Y10 : So base w10 x y zY zY (⟨M2, [], [], 0⟩) := ⟨O10, OwnF.nil _ _ _, OwnF.nil _ _ _⟩; have hs10 := zFx hs hvi K10)
      | (refine vP rfl rfl rfl S10 ?_)
      | (go_at_call 152; refine (vN _ _ x y zY zY (⟨M2, [], [], 0⟩) l _ _ base rfl Y10 hs10 hvi hlen hT rfl (by simp) (by simp)).mono ?_; rw [HS1.out]; rintro e w11 ⟨vo1, ve1, rfl, Y11, t11⟩; have z11 := t11.row z10 zJ; have S11 := t11.row S10 zJ; have K11 := zAt K10 L10 t11; have sz11 := t11.size; have L11 := Y11.ow.le; have lz11 := z11.lt; have lS11 := S11.lt)
      | (refine st_s rfl rfl rfl rfl S11 (zB Y11.ow.hx) (zB Y11.ow.hy) (Y11.o.one okM) (Y11.e.one okE) ?_; rintro w12 S12 o12 -; have z12 := z11.onto o12 (by omega); have Y12 := Y11.row o12 S11 zJ (by decide); have K12 := zW K11 o12 (by omega) L11; have sz12 := o12.size; have L12 : base ≤ w12.heap.size := Nat.le_trans L11 sz12; have lz12 := z12.lt; have lS12 := S12.lt)
      | (refine zJ0 rfl rfl rfl S12 ?_)
      | (go_at_call 153; refine (jL S1.m.t K _).mono ?_; rw [HT.out]; rintro e w13 ⟨rfl, hb13⟩; have z13 := z12.below hb13; have S13 := S12.below hb13; have Y13 := Y12.below hb13; have K13 := zV K12 L12 hb13; have sz13 := hb13.size; have L13 : base ≤ w13.heap.size := Nat.le_trans L12 sz13; have lz13 := z13.lt; have lS13 := S13.lt)
      | (refine al_t rfl rfl ?_; intro w14 t14 hb14; have z14 := z13.below hb14; have S14 := S13.below hb14; have Y14 := Y13.below hb14; have K14 := zV K13 L13 hb14; have sz14 := hb14.size; have L14 : base ≤ w14.heap.size := Nat.le_trans L13 sz14; have lz14 := z14.lt; have lS14 := S14.lt; have lt14 := t14.lt)
      | (refine zJl rfl rfl rfl rfl t14 ?_; rintro w15 t15 o15; have z15 := z14.onto o15 (by omega); have S15 := S14.onto o15 (by omega); have Y15 := Y14.row o15 t14 zEh (by decide); have K15 := zW K14 o15 (by omega) L14; have sz15 := o15.size; have L15 : base ≤ w15.heap.size := Nat.le_trans L14 sz15; have lz15 := z15.lt; have lS15 := S15.lt; have lt15 := t15.lt)
      | (refine zGp rfl rfl rfl t15 ?_)
      | (refine zJm rfl rfl rfl rfl S15 ?_; rintro w16 S16 o16 -; have z16 := z15.onto o16 (by omega); have K16 := zW K15 o16 (by omega) L15; have sz16 := o16.size; have L16 : base ≤ w16.heap.size := Nat.le_trans L15 sz16; have lz16 := z16.lt; have lS16 := S16.lt; have Y16 := (Y15.row o16 S15 zJ (by decide)).as (s' := { S1 with m := { S1.m with t := TA } }) rfl rfl rfl rfl)
      | (refine zCd (s' := { S1 with m := { S1.m with t := TA, k := m.k + K } }) rfl rfl rfl rfl S16 rfl rfl ?_; rintro w17 S17 o17 -; have z17 := z16.onto o17 (by omega); have K17 := zW K16 o17 (by omega) L16; have sz17 := o17.size; have L17 : base ≤ w17.heap.size := Nat.le_trans L16 sz17; have lz17 := z17.lt; have lS17 := S17.lt; have Y17 := (Y16.row o17 S16 zJ (by decide)).as (s' := { S1 with m := { S1.m with t := TA, k := m.k + K } }) rfl rfl rfl rfl; have kf17 := (sw S17).fl)
      | (refine zCd (s' := { S1 with m := { S1.m with t := TA, k := m.k + K, fl := bits .or .i64 S1.m.fl 1 } }) rfl rfl rfl rfl S17 rfl rfl ?_; rintro w18 S18 o18 -; have z18 := z17.onto o18 (by omega); have K18 := zW K17 o18 (by omega) L17; have sz18 := o18.size; have L18 : base ≤ w18.heap.size := Nat.le_trans L17 sz18; have lz18 := z18.lt; have lS18 := S18.lt; have Y18 := (Y17.row o18 S17 zJ (by decide)).as (s' := { S1 with m := { S1.m with t := TA, k := m.k + K, fl := bits .or .i64 S1.m.fl 1 } }) rfl rfl rfl rfl)
      | (refine vP rfl rfl rfl S18 ?_)
      | (refine st_s rfl rfl rfl rfl z18 (zB Y18.ow.hx) (zB Y18.ow.hy) (Y18.o.one okM) (Y18.e.one okE) ?_; rintro wa za oa -; have Ka := zW K18 oa (by omega) L18; have Ya := Y18.row oa z18 zJ (by decide)))
     refine vQ rfl rfl za rfl rfl ?_
     rw [HX.out]
     exact ⟨Ka, .inl ⟨rfl, vo1, ve1, by rw [← HQ.out]; rfl, by rw [← HQ.out]; exact Ya⟩⟩
    ·have HQ : Hid ({ S1 with m := { S1.m with t := TA, k := m.k + K } } = m.stepped l) := show _ = _ by rw [hQ, if_neg hrd]
     clear hQ
     go_enter Tryz.func65, Tryz.ntmps65
     go_wp2_with (first
      | (refine zP rfl rfl hv ?_; intro w0 r0 hb0; have lr0 := r0.lt; have O0 := h.below hb0; have K0 : Tame base w w0 := zV (Tame.refl base w) hle hb0; have L0 : base ≤ w0.heap.size := O0.le)
      | (refine xV rfl rfl ?_; intro w1 z1 hb1; have r1 := r0.below hb1; have O1 := O0.below hb1; have K1 := zV K0 L0 hb1; have L1 := O1.le; have lz1 := z1.lt; have ck : w1.cell? ⟨w.heap.size, 24, none⟩ = some (.int .i64 m.k) := (cw r1).k)
      | (refine zI rfl rfl rfl r1 ?_)
      | (go_at_call 150; refine (jN rfl O1 hok).mono ?_; rw [HC.out]; rintro e w2 ⟨rfl, O2x, bt2⟩; have O2 : Ow base w2 x y M1 := O2x; clear O2x; have n2 := bt2 gy hgy; clear ck; have z2 := z1.onto n2 (by omega); have K2 := zAx K1 h.hy hgy n2; have sz2 := n2.size; have L2 : base ≤ w2.heap.size := Nat.le_trans L1 sz2; have lz2 := z2.lt)
      | (refine zR rfl rfl ?_; intro w3 q3 hb3; have z3 := z2.below hb3; have O3 := O2.below hb3; have K3 := zV K2 L2 hb3; have sz3 := hb3.size; have L3 : base ≤ w3.heap.size := Nat.le_trans L2 sz3; have lz3 := z3.lt; have lq3 := q3.lt)
      | (refine zL rfl rfl rfl rfl q3 (zB O3.hx) (zB O3.hy) ?_; rintro w4 q4 o4 -; have z4 := z3.onto o4 (by omega); have O4 := O3.at o4 (zF O3.hx q3 (by decide)) (zF O3.hy q3 (by decide)); have K4 := zW K3 o4 (by omega) L3; have sz4 := o4.size; have L4 : base ≤ w4.heap.size := Nat.le_trans L3 sz4; have lz4 := z4.lt; have lq4 := q4.lt)
      | (refine zI rfl rfl rfl q4 ?_)
      | (refine zEu rfl rfl rfl ?_)
      | (refine xV rfl rfl ?_; intro w5 S5 hb5; have z5 := z4.below hb5; have O5 := O4.below hb5; have q5 := q4.below hb5; have K5 := zV K4 L4 hb5; have sz5 := hb5.size; have L5 : base ≤ w5.heap.size := Nat.le_trans L4 sz5; have lz5 := z5.lt; have lq5 := q5.lt; have lS5 := S5.lt)
      | (refine st_s rfl rfl rfl rfl S5 (zB O5.hx) (zB O5.hy) rfl rfl ?_; rintro w6 S6 o6 -; have z6 := z5.onto o6 (by omega); have O6 := O5.at o6 (zF O5.hx S5 (by decide)) (zF O5.hy S5 (by decide)); have q6 := q5.onto o6 (by omega); have K6 := zW K5 o6 (by omega) L5; have sz6 := o6.size; have L6 : base ≤ w6.heap.size := Nat.le_trans L5 sz6; have lz6 := z6.lt; have lq6 := q6.lt; have lS6 := S6.lt; have ke6 := (sw S6).e)
      | (refine zI rfl rfl rfl q6 ?_)
      | (go_at_call 151; refine (zBk rfl O6 hok1).mono ?_; rw [HR.out]; rintro e w7 ⟨rfl, O7x, bt7⟩; have O7 : Ow base w7 x y M2 := O7x; clear O7x; have n7 := bt7 gy hgy; clear ke6; have z7 := z6.onto n7 (by omega); have q7 := q6.onto n7 (by omega); have S7 := S6.onto n7 (by omega); have K7 := zAx K6 h.hy hgy n7; have sz7 := n7.size; have L7 : base ≤ w7.heap.size := Nat.le_trans L6 sz7; have lz7 := z7.lt; have lq7 := q7.lt; have lS7 := S7.lt)
      | (refine zR rfl rfl ?_; intro w8 p8 hb8; have z8 := z7.below hb8; have O8 := O7.below hb8; have q8 := q7.below hb8; have S8 := S7.below hb8; have K8 := zV K7 L7 hb8; have sz8 := hb8.size; have L8 : base ≤ w8.heap.size := Nat.le_trans L7 sz8; have lz8 := z8.lt; have lq8 := q8.lt; have lS8 := S8.lt; have lp8 := p8.lt)
      | (refine zL rfl rfl rfl rfl p8 (zB O8.hx) (zB O8.hy) ?_; rintro w9 p9 o9 -; have z9 := z8.onto o9 (by omega); have O9 := O8.at o9 (zF O8.hx p8 (by decide)) (zF O8.hy p8 (by decide)); have q9 := q8.onto o9 (by omega); have S9 := S8.onto o9 (by omega); have K9 := zW K8 o9 (by omega) L8; have sz9 := o9.size; have L9 : base ≤ w9.heap.size := Nat.le_trans L8 sz9; have lz9 := z9.lt; have lq9 := q9.lt; have lS9 := S9.lt; have lp9 := p9.lt)
      | (refine zI rfl rfl rfl p9 ?_)
      | (refine zJn rfl rfl rfl rfl S9 (zB O9.hx) (zB O9.hy) ?_; rintro w10 S10 o10 -; have z10 := z9.onto o10 (by omega); have O10 := O9.at o10 (zF O9.hx S9 (by decide)) (zF O9.hy S9 (by decide)); have q10 := q9.onto o10 (by omega); have p10 := p9.onto o10 (by omega); have K10 := zW K9 o10 (by omega) L9; have sz10 := o10.size; have L10 : base ≤ w10.heap.size := Nat.le_trans L9 sz10; have lz10 := z10.lt; have lq10 := q10.lt; have lS10 := S10.lt; have lp10 := p10.lt; have ke10 := (sw S10).e; have Y10 : So base w10 x y zY zY (⟨M2, [], [], 0⟩) := ⟨O10, OwnF.nil _ _ _, OwnF.nil _ _ _⟩; have hs10 := zFx hs hvi K10)
      | (refine vP rfl rfl rfl S10 ?_)
      | (go_at_call 152; refine (vN _ _ x y zY zY (⟨M2, [], [], 0⟩) l _ _ base rfl Y10 hs10 hvi hlen hT rfl (by simp) (by simp)).mono ?_; rw [HS1.out]; rintro e w11 ⟨vo1, ve1, rfl, Y11, t11⟩; have z11 := t11.row z10 zJ; have S11 := t11.row S10 zJ; have K11 := zAt K10 L10 t11; have sz11 := t11.size; have L11 := Y11.ow.le; have lz11 := z11.lt; have lS11 := S11.lt)
      | (refine st_s rfl rfl rfl rfl S11 (zB Y11.ow.hx) (zB Y11.ow.hy) (Y11.o.one okM) (Y11.e.one okE) ?_; rintro w12 S12 o12 -; have z12 := z11.onto o12 (by omega); have Y12 := Y11.row o12 S11 zJ (by decide); have K12 := zW K11 o12 (by omega) L11; have sz12 := o12.size; have L12 : base ≤ w12.heap.size := Nat.le_trans L11 sz12; have lz12 := z12.lt; have lS12 := S12.lt)
      | (refine zJ0 rfl rfl rfl S12 ?_)
      | (go_at_call 153; refine (jL S1.m.t K _).mono ?_; rw [HT.out]; rintro e w13 ⟨rfl, hb13⟩; have z13 := z12.below hb13; have S13 := S12.below hb13; have Y13 := Y12.below hb13; have K13 := zV K12 L12 hb13; have sz13 := hb13.size; have L13 : base ≤ w13.heap.size := Nat.le_trans L12 sz13; have lz13 := z13.lt; have lS13 := S13.lt)
      | (refine al_t rfl rfl ?_; intro w14 t14 hb14; have z14 := z13.below hb14; have S14 := S13.below hb14; have Y14 := Y13.below hb14; have K14 := zV K13 L13 hb14; have sz14 := hb14.size; have L14 : base ≤ w14.heap.size := Nat.le_trans L13 sz14; have lz14 := z14.lt; have lS14 := S14.lt; have lt14 := t14.lt)
      | (refine zJl rfl rfl rfl rfl t14 ?_; rintro w15 t15 o15; have z15 := z14.onto o15 (by omega); have S15 := S14.onto o15 (by omega); have Y15 := Y14.row o15 t14 zEh (by decide); have K15 := zW K14 o15 (by omega) L14; have sz15 := o15.size; have L15 : base ≤ w15.heap.size := Nat.le_trans L14 sz15; have lz15 := z15.lt; have lS15 := S15.lt; have lt15 := t15.lt)
      | (refine zGp rfl rfl rfl t15 ?_)
      | (refine zJm rfl rfl rfl rfl S15 ?_; rintro w16 S16 o16 -; have z16 := z15.onto o16 (by omega); have K16 := zW K15 o16 (by omega) L15; have sz16 := o16.size; have L16 : base ≤ w16.heap.size := Nat.le_trans L15 sz16; have lz16 := z16.lt; have lS16 := S16.lt; have Y16 := (Y15.row o16 S15 zJ (by decide)).as (s' := { S1 with m := { S1.m with t := TA } }) rfl rfl rfl rfl)
      | (refine zCd (s' := { S1 with m := { S1.m with t := TA, k := m.k + K } }) rfl rfl rfl rfl S16 rfl rfl ?_; rintro w17 S17 o17 -; have z17 := z16.onto o17 (by omega); have K17 := zW K16 o17 (by omega) L16; have sz17 := o17.size; have L17 : base ≤ w17.heap.size := Nat.le_trans L16 sz17; have lz17 := z17.lt; have lS17 := S17.lt; have Y17 := (Y16.row o17 S16 zJ (by decide)).as (s' := { S1 with m := { S1.m with t := TA, k := m.k + K } }) rfl rfl rfl rfl; have kf17 := (sw S17).fl)
      | (refine vP rfl rfl rfl S17 ?_)
      | (refine st_s rfl rfl rfl rfl z17 (zB Y17.ow.hx) (zB Y17.ow.hy) (Y17.o.one okM) (Y17.e.one okE) ?_; rintro wa za oa -; have Ka := zW K17 oa (by omega) L17; have Ya := Y17.row oa z17 zJ (by decide)))
     refine vQ rfl rfl za rfl rfl ?_
     rw [HX.out]
     exact ⟨Ka, .inl ⟨rfl, vo1, ve1, by rw [← HQ.out]; rfl, by rw [← HQ.out]; exact Ya⟩⟩
   ·have hX : r = (St.nul, false) := by rw [HX.out]; unfold Mc.step'; rw [hfin, if_neg hf]
    have HX : Hid (r = (St.nul, false)) := hX
    clear hX hfin
    go_enter Tryz.func65, Tryz.ntmps65
    go_wp2_with (first
     | (refine zP rfl rfl hv ?_; intro w0 r0 hb0; have lr0 := r0.lt; have O0 := h.below hb0; have K0 : Tame base w w0 := zV (Tame.refl base w) hle hb0; have L0 : base ≤ w0.heap.size := O0.le)
     | (refine xV rfl rfl ?_; intro w1 z1 hb1; have r1 := r0.below hb1; have O1 := O0.below hb1; have K1 := zV K0 L0 hb1; have L1 := O1.le; have lz1 := z1.lt; have ck : w1.cell? ⟨w.heap.size, 24, none⟩ = some (.int .i64 m.k) := (cw r1).k)
     | (refine zI rfl rfl rfl r1 ?_)
     | (go_at_call 150; refine (jN rfl O1 hok).mono ?_; rw [HC.out]; rintro e w2 ⟨rfl, O2x, bt2⟩; have O2 : Ow base w2 x y M1 := O2x; clear O2x; have n2 := bt2 gy hgy; clear ck; have z2 := z1.onto n2 (by omega); have K2 := zAx K1 h.hy hgy n2; have sz2 := n2.size; have L2 : base ≤ w2.heap.size := Nat.le_trans L1 sz2; have lz2 := z2.lt)
     | (refine zR rfl rfl ?_; intro w3 q3 hb3; have z3 := z2.below hb3; have O3 := O2.below hb3; have K3 := zV K2 L2 hb3; have sz3 := hb3.size; have L3 : base ≤ w3.heap.size := Nat.le_trans L2 sz3; have lz3 := z3.lt; have lq3 := q3.lt)
     | (refine zL rfl rfl rfl rfl q3 (zB O3.hx) (zB O3.hy) ?_; rintro w4 q4 o4 -; have z4 := z3.onto o4 (by omega); have O4 := O3.at o4 (zF O3.hx q3 (by decide)) (zF O3.hy q3 (by decide)); have K4 := zW K3 o4 (by omega) L3; have sz4 := o4.size; have L4 : base ≤ w4.heap.size := Nat.le_trans L3 sz4; have lz4 := z4.lt; have lq4 := q4.lt)
     | (refine zI rfl rfl rfl q4 ?_)
     | (refine zEu rfl rfl rfl ?_)
     | (refine xV rfl rfl ?_; intro w5 S5 hb5; have z5 := z4.below hb5; have O5 := O4.below hb5; have q5 := q4.below hb5; have K5 := zV K4 L4 hb5; have sz5 := hb5.size; have L5 : base ≤ w5.heap.size := Nat.le_trans L4 sz5; have lz5 := z5.lt; have lq5 := q5.lt; have lS5 := S5.lt)
     | (refine st_s rfl rfl rfl rfl S5 (zB O5.hx) (zB O5.hy) rfl rfl ?_; rintro w6 S6 o6 -; have z6 := z5.onto o6 (by omega); have O6 := O5.at o6 (zF O5.hx S5 (by decide)) (zF O5.hy S5 (by decide)); have q6 := q5.onto o6 (by omega); have K6 := zW K5 o6 (by omega) L5; have sz6 := o6.size; have L6 : base ≤ w6.heap.size := Nat.le_trans L5 sz6; have lz6 := z6.lt; have lq6 := q6.lt; have lS6 := S6.lt; have ke6 := (sw S6).e)
     | (refine zI rfl rfl rfl q6 ?_)
     | (go_at_call 151; refine (zBk rfl O6 hok1).mono ?_; rw [HR.out]; rintro e w7 ⟨rfl, O7x, bt7⟩; have O7 : Ow base w7 x y M2 := O7x; clear O7x; have n7 := bt7 gy hgy; clear ke6; have z7 := z6.onto n7 (by omega); have q7 := q6.onto n7 (by omega); have S7 := S6.onto n7 (by omega); have K7 := zAx K6 h.hy hgy n7; have sz7 := n7.size; have L7 : base ≤ w7.heap.size := Nat.le_trans L6 sz7; have lz7 := z7.lt; have lq7 := q7.lt; have lS7 := S7.lt)
     | (refine zR rfl rfl ?_; intro w8 p8 hb8; have z8 := z7.below hb8; have O8 := O7.below hb8; have q8 := q7.below hb8; have S8 := S7.below hb8; have K8 := zV K7 L7 hb8; have sz8 := hb8.size; have L8 : base ≤ w8.heap.size := Nat.le_trans L7 sz8; have lz8 := z8.lt; have lq8 := q8.lt; have lS8 := S8.lt; have lp8 := p8.lt)
     | (refine zL rfl rfl rfl rfl p8 (zB O8.hx) (zB O8.hy) ?_; rintro w9 p9 o9 -; have z9 := z8.onto o9 (by omega); have O9 := O8.at o9 (zF O8.hx p8 (by decide)) (zF O8.hy p8 (by decide)); have q9 := q8.onto o9 (by omega); have S9 := S8.onto o9 (by omega); have K9 := zW K8 o9 (by omega) L8; have sz9 := o9.size; have L9 : base ≤ w9.heap.size := Nat.le_trans L8 sz9; have lz9 := z9.lt; have lq9 := q9.lt; have lS9 := S9.lt; have lp9 := p9.lt)
     | (refine zI rfl rfl rfl p9 ?_)
     | (refine zJn rfl rfl rfl rfl S9 (zB O9.hx) (zB O9.hy) ?_; rintro w10 S10 o10 -; have z10 := z9.onto o10 (by omega); have O10 := O9.at o10 (zF O9.hx S9 (by decide)) (zF O9.hy S9 (by decide)); have q10 := q9.onto o10 (by omega); have p10 := p9.onto o10 (by omega); have K10 := zW K9 o10 (by omega) L9; have sz10 := o10.size; have L10 : base ≤ w10.heap.size := Nat.le_trans L9 sz10; have lz10 := z10.lt; have lq10 := q10.lt; have lS10 := S10.lt; have lp10 := p10.lt; have ke10 := (sw S10).e)
     | (refine zFr rfl rfl ?_)
     | (refine st_s rfl rfl rfl rfl z10 rfl rfl rfl rfl ?_; rintro wa za oa -; have Ka := zW K10 oa (by omega) L10))
    refine vQ rfl rfl za rfl rfl ?_
    rw [HX.out]
    exact ⟨Ka, .inr ⟨rfl, rfl⟩⟩
 ·have HTU : Hid (m.turn = (M1, 5, [⟨m.k + 5, 2, C⟩])) := show _ = _ by
   unfold Mc.turn
   rw [HC.out]
   simp [hc]
  have hfin : m.fin = m.k + 5 := by unfold Mc.fin; rw [HTU.out]
  by_cases hf : m.k + 5 ≤ 999999900
  ·have hX : r = (m.stepped l, true) := by rw [HX.out]; unfold Mc.step'; rw [hfin, if_pos hf]
   obtain ⟨S1, hS1⟩ : ∃ S1, ((⟨M1, [], [⟨m.k + 5, 2, C⟩], 0⟩ : St)).evs l (m.k + 5) = S1 := ⟨_, rfl⟩
   obtain ⟨TA, RD, hTA⟩ : ∃ TA RD, S1.m.t.after 5 = (TA, RD) := ⟨_, _, rfl⟩
   have hQ : m.stepped l = { S1 with m := { S1.m with t := TA, k := m.k + 5, fl := if 0 < RD then bits .or .i64 S1.m.fl 1 else S1.m.fl } } := by
    unfold Mc.stepped St.first St.closed
    rw [hfin, HTU.out]
    show (_ : St) = _
    rw [hS1, hTA]
   have HX : Hid (r = (m.stepped l, true)) := hX
   have HS1 : Hid (((⟨M1, [], [⟨m.k + 5, 2, C⟩], 0⟩ : St)).evs l (m.k + 5) = S1) := hS1
   have HT : Hid (S1.m.t.after 5 = (TA, RD)) := hTA
   clear hX hS1 hTA hfin
   by_cases hrd : 0 < RD
   ·have HQ : Hid ({ S1 with m := { S1.m with t := TA, k := m.k + 5, fl := bits .or .i64 S1.m.fl 1 } } = m.stepped l) := show _ = _ by rw [hQ, if_pos hrd]
    clear hQ
    go_enter Tryz.func65, Tryz.ntmps65
    go_wp2_with (first
     | (refine zP rfl rfl hv ?_; intro w0 r0 hb0; have lr0 := r0.lt; have O0 := h.below hb0; have K0 : Tame base w w0 := zV (Tame.refl base w) hle hb0; have L0 : base ≤ w0.heap.size := O0.le)
     | (refine xV rfl rfl ?_; intro w1 z1 hb1; have r1 := r0.below hb1; have O1 := O0.below hb1; have K1 := zV K0 L0 hb1; have L1 := O1.le; have lz1 := z1.lt; have ck : w1.cell? ⟨w.heap.size, 24, none⟩ = some (.int .i64 m.k) := (cw r1).k)
     | (refine zI rfl rfl rfl r1 ?_)
     | (go_at_call 150; refine (jN rfl O1 hok).mono ?_; rw [HC.out]; rintro e w2 ⟨rfl, O2x, bt2⟩; have O2 : Ow base w2 x y M1 := O2x; clear O2x; have n2 := bt2 gy hgy; clear ck; have z2 := z1.onto n2 (by omega); have K2 := zAx K1 h.hy hgy n2; have sz2 := n2.size; have L2 : base ≤ w2.heap.size := Nat.le_trans L1 sz2; have lz2 := z2.lt)
     | (refine zR rfl rfl ?_; intro w3 q3 hb3; have z3 := z2.below hb3; have O3 := O2.below hb3; have K3 := zV K2 L2 hb3; have sz3 := hb3.size; have L3 : base ≤ w3.heap.size := Nat.le_trans L2 sz3; have lz3 := z3.lt; have lq3 := q3.lt)
     | (refine zL rfl rfl rfl rfl q3 (zB O3.hx) (zB O3.hy) ?_; rintro w4 q4 o4 -; have z4 := z3.onto o4 (by omega); have O4 := O3.at o4 (zF O3.hx q3 (by decide)) (zF O3.hy q3 (by decide)); have K4 := zW K3 o4 (by omega) L3; have sz4 := o4.size; have L4 : base ≤ w4.heap.size := Nat.le_trans L3 sz4; have lz4 := z4.lt; have lq4 := q4.lt)
     | (refine zI rfl rfl rfl q4 ?_)
     | (refine zEu rfl rfl rfl ?_)
     | (refine xV rfl rfl ?_; intro w5 S5 hb5; have z5 := z4.below hb5; have O5 := O4.below hb5; have q5 := q4.below hb5; have K5 := zV K4 L4 hb5; have sz5 := hb5.size; have L5 : base ≤ w5.heap.size := Nat.le_trans L4 sz5; have lz5 := z5.lt; have lq5 := q5.lt; have lS5 := S5.lt)
     | (refine st_s rfl rfl rfl rfl S5 (zB O5.hx) (zB O5.hy) rfl rfl ?_; rintro w6 S6 o6 -; have z6 := z5.onto o6 (by omega); have O6 := O5.at o6 (zF O5.hx S5 (by decide)) (zF O5.hy S5 (by decide)); have q6 := q5.onto o6 (by omega); have K6 := zW K5 o6 (by omega) L5; have sz6 := o6.size; have L6 : base ≤ w6.heap.size := Nat.le_trans L5 sz6; have lz6 := z6.lt; have lq6 := q6.lt; have lS6 := S6.lt; have ke6 := (sw S6).e; have hal : Below w6.heap.size w6 (w6.alloc (.cells #[.int .i64 (m.k + 5), .int .i64 2, .int .i64 C] 82)) := (Below.refl _ _).alloc (Nat.le_refl _) _; have hlit := xO fE okE w6.heap.size w6 #[.int .i64 (m.k + 5), .int .i64 2, .int .i64 C] [⟨m.k + 5, 2, C⟩] rfl (by unfold maxLen; simp) (Nat.le_refl _); have zl := z6.below hal; have Sl' := S6.below hal; have Ol := O6.below hal; have Kl := zV K6 L6 hal; have Ll := Ol.le)
     | (at_builtin; refine appF okE rfl (.tmp 50) (.tmp 56) rfl base [] [⟨m.k + 5, 2, C⟩] (OwnF.nil _ _ _) (hlit.sl okE) (by simp) (by omega) ?_; intro v7 w7 E7 hg7; have t7 := Mild.grown (base := base) vT (OwnF.nil fE base _) hg7; have z7 := t7.row zl zJ; have S7 := t7.row Sl' zJ; have O7 := t7.ow Ol; have K7 := zAt Kl Ll t7; have sz7 := t7.size; have L7 := O7.le; have lz7 := z7.lt; have lS7 := S7.lt)
     | (refine zHn (l := [⟨m.k + 5, 2, C⟩]) rfl rfl rfl rfl S7 (E7.one okE) ?_; rintro w8 S8 o8 -; have z8 := z7.onto o8 (by omega); have O8 := O7.at o8 (zF O7.hx S7 (by decide)) (zF O7.hy S7 (by decide)); have E8 := E7.onto o8 (E7.not_row S7 (by decide)); have K8 := zW K7 o8 (by omega) L7; have sz8 := o8.size; have L8 : base ≤ w8.heap.size := Nat.le_trans L7 sz8; have lz8 := z8.lt; have lS8 := S8.lt; have Y8 : So base w8 x y zY v7 (⟨M1, [], [⟨m.k + 5, 2, C⟩], 0⟩) := ⟨O8, OwnF.nil _ _ _, E8⟩; have hs8 := zFx hs hvi K8)
     | (refine vP rfl rfl rfl S8 ?_)
     | (go_at_call 152; refine (vN _ _ x y zY v7 (⟨M1, [], [⟨m.k + 5, 2, C⟩], 0⟩) l _ _ base rfl Y8 hs8 hvi hlen hT rfl (by simp) (by simp)).mono ?_; rw [HS1.out]; rintro e w9 ⟨vo1, ve1, rfl, Y9, t9⟩; have z9 := t9.row z8 zJ; have S9 := t9.row S8 zJ; have K9 := zAt K8 L8 t9; have sz9 := t9.size; have L9 := Y9.ow.le; have lz9 := z9.lt; have lS9 := S9.lt)
     | (refine st_s rfl rfl rfl rfl S9 (zB Y9.ow.hx) (zB Y9.ow.hy) (Y9.o.one okM) (Y9.e.one okE) ?_; rintro w10 S10 o10 -; have z10 := z9.onto o10 (by omega); have Y10 := Y9.row o10 S9 zJ (by decide); have K10 := zW K9 o10 (by omega) L9; have sz10 := o10.size; have L10 : base ≤ w10.heap.size := Nat.le_trans L9 sz10; have lz10 := z10.lt; have lS10 := S10.lt)
     | (refine zJ0 rfl rfl rfl S10 ?_)
     | (go_at_call 153; refine (jL S1.m.t 5 _).mono ?_; rw [HT.out]; rintro e w11 ⟨rfl, hb11⟩; have z11 := z10.below hb11; have S11 := S10.below hb11; have Y11 := Y10.below hb11; have K11 := zV K10 L10 hb11; have sz11 := hb11.size; have L11 : base ≤ w11.heap.size := Nat.le_trans L10 sz11; have lz11 := z11.lt; have lS11 := S11.lt)
     | (refine al_t rfl rfl ?_; intro w12 t12 hb12; have z12 := z11.below hb12; have S12 := S11.below hb12; have Y12 := Y11.below hb12; have K12 := zV K11 L11 hb12; have sz12 := hb12.size; have L12 : base ≤ w12.heap.size := Nat.le_trans L11 sz12; have lz12 := z12.lt; have lS12 := S12.lt; have lt12 := t12.lt)
     | (refine zJl rfl rfl rfl rfl t12 ?_; rintro w13 t13 o13; have z13 := z12.onto o13 (by omega); have S13 := S12.onto o13 (by omega); have Y13 := Y12.row o13 t12 zEh (by decide); have K13 := zW K12 o13 (by omega) L12; have sz13 := o13.size; have L13 : base ≤ w13.heap.size := Nat.le_trans L12 sz13; have lz13 := z13.lt; have lS13 := S13.lt; have lt13 := t13.lt)
     | (refine zGp rfl rfl rfl t13 ?_)
     | (refine zJm rfl rfl rfl rfl S13 ?_; rintro w14 S14 o14 -; have z14 := z13.onto o14 (by omega); have K14 := zW K13 o14 (by omega) L13; have sz14 := o14.size; have L14 : base ≤ w14.heap.size := Nat.le_trans L13 sz14; have lz14 := z14.lt; have lS14 := S14.lt; have Y14 := (Y13.row o14 S13 zJ (by decide)).as (s' := { S1 with m := { S1.m with t := TA } }) rfl rfl rfl rfl)
     | (refine zCd (s' := { S1 with m := { S1.m with t := TA, k := m.k + 5 } }) rfl rfl rfl rfl S14 rfl rfl ?_; rintro w15 S15 o15 -; have z15 := z14.onto o15 (by omega); have K15 := zW K14 o15 (by omega) L14; have sz15 := o15.size; have L15 : base ≤ w15.heap.size := Nat.le_trans L14 sz15; have lz15 := z15.lt; have lS15 := S15.lt; have Y15 := (Y14.row o15 S14 zJ (by decide)).as (s' := { S1 with m := { S1.m with t := TA, k := m.k + 5 } }) rfl rfl rfl rfl; have kf15 := (sw S15).fl)
     | (refine zCd (s' := { S1 with m := { S1.m with t := TA, k := m.k + 5, fl := bits .or .i64 S1.m.fl 1 } }) rfl rfl rfl rfl S15 rfl rfl ?_; rintro w16 S16 o16 -; have z16 := z15.onto o16 (by omega); have K16 := zW K15 o16 (by omega) L15; have sz16 := o16.size; have L16 : base ≤ w16.heap.size := Nat.le_trans L15 sz16; have lz16 := z16.lt; have lS16 := S16.lt; have Y16 := (Y15.row o16 S15 zJ (by decide)).as (s' := { S1 with m := { S1.m with t := TA, k := m.k + 5, fl := bits .or .i64 S1.m.fl 1 } }) rfl rfl rfl rfl)
     | (refine vP rfl rfl rfl S16 ?_)
     | (refine st_s rfl rfl rfl rfl z16 (zB Y16.ow.hx) (zB Y16.ow.hy) (Y16.o.one okM) (Y16.e.one okE) ?_; rintro wa za oa -; have Ka := zW K16 oa (by omega) L16; have Ya := Y16.row oa z16 zJ (by decide)))
    refine vQ rfl rfl za rfl rfl ?_
    rw [HX.out]
    exact ⟨Ka, .inl ⟨rfl, vo1, ve1, by rw [← HQ.out]; rfl, by rw [← HQ.out]; exact Ya⟩⟩
   ·have HQ : Hid ({ S1 with m := { S1.m with t := TA, k := m.k + 5 } } = m.stepped l) := show _ = _ by rw [hQ, if_neg hrd]
    clear hQ
    go_enter Tryz.func65, Tryz.ntmps65
    go_wp2_with (first
     | (refine zP rfl rfl hv ?_; intro w0 r0 hb0; have lr0 := r0.lt; have O0 := h.below hb0; have K0 : Tame base w w0 := zV (Tame.refl base w) hle hb0; have L0 : base ≤ w0.heap.size := O0.le)
     | (refine xV rfl rfl ?_; intro w1 z1 hb1; have r1 := r0.below hb1; have O1 := O0.below hb1; have K1 := zV K0 L0 hb1; have L1 := O1.le; have lz1 := z1.lt; have ck : w1.cell? ⟨w.heap.size, 24, none⟩ = some (.int .i64 m.k) := (cw r1).k)
     | (refine zI rfl rfl rfl r1 ?_)
     | (go_at_call 150; refine (jN rfl O1 hok).mono ?_; rw [HC.out]; rintro e w2 ⟨rfl, O2x, bt2⟩; have O2 : Ow base w2 x y M1 := O2x; clear O2x; have n2 := bt2 gy hgy; clear ck; have z2 := z1.onto n2 (by omega); have K2 := zAx K1 h.hy hgy n2; have sz2 := n2.size; have L2 : base ≤ w2.heap.size := Nat.le_trans L1 sz2; have lz2 := z2.lt)
     | (refine zR rfl rfl ?_; intro w3 q3 hb3; have z3 := z2.below hb3; have O3 := O2.below hb3; have K3 := zV K2 L2 hb3; have sz3 := hb3.size; have L3 : base ≤ w3.heap.size := Nat.le_trans L2 sz3; have lz3 := z3.lt; have lq3 := q3.lt)
     | (refine zL rfl rfl rfl rfl q3 (zB O3.hx) (zB O3.hy) ?_; rintro w4 q4 o4 -; have z4 := z3.onto o4 (by omega); have O4 := O3.at o4 (zF O3.hx q3 (by decide)) (zF O3.hy q3 (by decide)); have K4 := zW K3 o4 (by omega) L3; have sz4 := o4.size; have L4 : base ≤ w4.heap.size := Nat.le_trans L3 sz4; have lz4 := z4.lt; have lq4 := q4.lt)
     | (refine zI rfl rfl rfl q4 ?_)
     | (refine zEu rfl rfl rfl ?_)
     | (refine xV rfl rfl ?_; intro w5 S5 hb5; have z5 := z4.below hb5; have O5 := O4.below hb5; have q5 := q4.below hb5; have K5 := zV K4 L4 hb5; have sz5 := hb5.size; have L5 : base ≤ w5.heap.size := Nat.le_trans L4 sz5; have lz5 := z5.lt; have lq5 := q5.lt; have lS5 := S5.lt)
     | (refine st_s rfl rfl rfl rfl S5 (zB O5.hx) (zB O5.hy) rfl rfl ?_; rintro w6 S6 o6 -; have z6 := z5.onto o6 (by omega); have O6 := O5.at o6 (zF O5.hx S5 (by decide)) (zF O5.hy S5 (by decide)); have q6 := q5.onto o6 (by omega); have K6 := zW K5 o6 (by omega) L5; have sz6 := o6.size; have L6 : base ≤ w6.heap.size := Nat.le_trans L5 sz6; have lz6 := z6.lt; have lq6 := q6.lt; have lS6 := S6.lt; have ke6 := (sw S6).e; have hal : Below w6.heap.size w6 (w6.alloc (.cells #[.int .i64 (m.k + 5), .int .i64 2, .int .i64 C] 82)) := (Below.refl _ _).alloc (Nat.le_refl _) _; have hlit := xO fE okE w6.heap.size w6 #[.int .i64 (m.k + 5), .int .i64 2, .int .i64 C] [⟨m.k + 5, 2, C⟩] rfl (by unfold maxLen; simp) (Nat.le_refl _); have zl := z6.below hal; have Sl' := S6.below hal; have Ol := O6.below hal; have Kl := zV K6 L6 hal; have Ll := Ol.le)
     | (at_builtin; refine appF okE rfl (.tmp 50) (.tmp 56) rfl base [] [⟨m.k + 5, 2, C⟩] (OwnF.nil _ _ _) (hlit.sl okE) (by simp) (by omega) ?_; intro v7 w7 E7 hg7; have t7 := Mild.grown (base := base) vT (OwnF.nil fE base _) hg7; have z7 := t7.row zl zJ; have S7 := t7.row Sl' zJ; have O7 := t7.ow Ol; have K7 := zAt Kl Ll t7; have sz7 := t7.size; have L7 := O7.le; have lz7 := z7.lt; have lS7 := S7.lt)
     | (refine zHn (l := [⟨m.k + 5, 2, C⟩]) rfl rfl rfl rfl S7 (E7.one okE) ?_; rintro w8 S8 o8 -; have z8 := z7.onto o8 (by omega); have O8 := O7.at o8 (zF O7.hx S7 (by decide)) (zF O7.hy S7 (by decide)); have E8 := E7.onto o8 (E7.not_row S7 (by decide)); have K8 := zW K7 o8 (by omega) L7; have sz8 := o8.size; have L8 : base ≤ w8.heap.size := Nat.le_trans L7 sz8; have lz8 := z8.lt; have lS8 := S8.lt; have Y8 : So base w8 x y zY v7 (⟨M1, [], [⟨m.k + 5, 2, C⟩], 0⟩) := ⟨O8, OwnF.nil _ _ _, E8⟩; have hs8 := zFx hs hvi K8)
     | (refine vP rfl rfl rfl S8 ?_)
     | (go_at_call 152; refine (vN _ _ x y zY v7 (⟨M1, [], [⟨m.k + 5, 2, C⟩], 0⟩) l _ _ base rfl Y8 hs8 hvi hlen hT rfl (by simp) (by simp)).mono ?_; rw [HS1.out]; rintro e w9 ⟨vo1, ve1, rfl, Y9, t9⟩; have z9 := t9.row z8 zJ; have S9 := t9.row S8 zJ; have K9 := zAt K8 L8 t9; have sz9 := t9.size; have L9 := Y9.ow.le; have lz9 := z9.lt; have lS9 := S9.lt)
     | (refine st_s rfl rfl rfl rfl S9 (zB Y9.ow.hx) (zB Y9.ow.hy) (Y9.o.one okM) (Y9.e.one okE) ?_; rintro w10 S10 o10 -; have z10 := z9.onto o10 (by omega); have Y10 := Y9.row o10 S9 zJ (by decide); have K10 := zW K9 o10 (by omega) L9; have sz10 := o10.size; have L10 : base ≤ w10.heap.size := Nat.le_trans L9 sz10; have lz10 := z10.lt; have lS10 := S10.lt)
     | (refine zJ0 rfl rfl rfl S10 ?_)
     | (go_at_call 153; refine (jL S1.m.t 5 _).mono ?_; rw [HT.out]; rintro e w11 ⟨rfl, hb11⟩; have z11 := z10.below hb11; have S11 := S10.below hb11; have Y11 := Y10.below hb11; have K11 := zV K10 L10 hb11; have sz11 := hb11.size; have L11 : base ≤ w11.heap.size := Nat.le_trans L10 sz11; have lz11 := z11.lt; have lS11 := S11.lt)
     | (refine al_t rfl rfl ?_; intro w12 t12 hb12; have z12 := z11.below hb12; have S12 := S11.below hb12; have Y12 := Y11.below hb12; have K12 := zV K11 L11 hb12; have sz12 := hb12.size; have L12 : base ≤ w12.heap.size := Nat.le_trans L11 sz12; have lz12 := z12.lt; have lS12 := S12.lt; have lt12 := t12.lt)
     | (refine zJl rfl rfl rfl rfl t12 ?_; rintro w13 t13 o13; have z13 := z12.onto o13 (by omega); have S13 := S12.onto o13 (by omega); have Y13 := Y12.row o13 t12 zEh (by decide); have K13 := zW K12 o13 (by omega) L12; have sz13 := o13.size; have L13 : base ≤ w13.heap.size := Nat.le_trans L12 sz13; have lz13 := z13.lt; have lS13 := S13.lt; have lt13 := t13.lt)
     | (refine zGp rfl rfl rfl t13 ?_)
     | (refine zJm rfl rfl rfl rfl S13 ?_; rintro w14 S14 o14 -; have z14 := z13.onto o14 (by omega); have K14 := zW K13 o14 (by omega) L13; have sz14 := o14.size; have L14 : base ≤ w14.heap.size := Nat.le_trans L13 sz14; have lz14 := z14.lt; have lS14 := S14.lt; have Y14 := (Y13.row o14 S13 zJ (by decide)).as (s' := { S1 with m := { S1.m with t := TA } }) rfl rfl rfl rfl)
     | (refine zCd (s' := { S1 with m := { S1.m with t := TA, k := m.k + 5 } }) rfl rfl rfl rfl S14 rfl rfl ?_; rintro w15 S15 o15 -; have z15 := z14.onto o15 (by omega); have K15 := zW K14 o15 (by omega) L14; have sz15 := o15.size; have L15 : base ≤ w15.heap.size := Nat.le_trans L14 sz15; have lz15 := z15.lt; have lS15 := S15.lt; have Y15 := (Y14.row o15 S14 zJ (by decide)).as (s' := { S1 with m := { S1.m with t := TA, k := m.k + 5 } }) rfl rfl rfl rfl; have kf15 := (sw S15).fl)
     | (refine vP rfl rfl rfl S15 ?_)
     | (refine st_s rfl rfl rfl rfl z15 (zB Y15.ow.hx) (zB Y15.ow.hy) (Y15.o.one okM) (Y15.e.one okE) ?_; rintro wa za oa -; have Ka := zW K15 oa (by omega) L15; have Ya := Y15.row oa z15 zJ (by decide)))
    refine vQ rfl rfl za rfl rfl ?_
    rw [HX.out]
    exact ⟨Ka, .inl ⟨rfl, vo1, ve1, by rw [← HQ.out]; rfl, by rw [← HQ.out]; exact Ya⟩⟩
  ·have hX : r = (St.nul, false) := by rw [HX.out]; unfold Mc.step'; rw [hfin, if_neg hf]
   have HX : Hid (r = (St.nul, false)) := hX
   clear hX hfin
   go_enter Tryz.func65, Tryz.ntmps65
   go_wp2_with (first
    | (refine zP rfl rfl hv ?_; intro w0 r0 hb0; have lr0 := r0.lt; have O0 := h.below hb0; have K0 : Tame base w w0 := zV (Tame.refl base w) hle hb0; have L0 : base ≤ w0.heap.size := O0.le)
    | (refine xV rfl rfl ?_; intro w1 z1 hb1; have r1 := r0.below hb1; have O1 := O0.below hb1; have K1 := zV K0 L0 hb1; have L1 := O1.le; have lz1 := z1.lt; have ck : w1.cell? ⟨w.heap.size, 24, none⟩ = some (.int .i64 m.k) := (cw r1).k)
    | (refine zI rfl rfl rfl r1 ?_)
    | (go_at_call 150; refine (jN rfl O1 hok).mono ?_; rw [HC.out]; rintro e w2 ⟨rfl, O2x, bt2⟩; have O2 : Ow base w2 x y M1 := O2x; clear O2x; have n2 := bt2 gy hgy; clear ck; have z2 := z1.onto n2 (by omega); have K2 := zAx K1 h.hy hgy n2; have sz2 := n2.size; have L2 : base ≤ w2.heap.size := Nat.le_trans L1 sz2; have lz2 := z2.lt)
    | (refine zR rfl rfl ?_; intro w3 q3 hb3; have z3 := z2.below hb3; have O3 := O2.below hb3; have K3 := zV K2 L2 hb3; have sz3 := hb3.size; have L3 : base ≤ w3.heap.size := Nat.le_trans L2 sz3; have lz3 := z3.lt; have lq3 := q3.lt)
    | (refine zL rfl rfl rfl rfl q3 (zB O3.hx) (zB O3.hy) ?_; rintro w4 q4 o4 -; have z4 := z3.onto o4 (by omega); have O4 := O3.at o4 (zF O3.hx q3 (by decide)) (zF O3.hy q3 (by decide)); have K4 := zW K3 o4 (by omega) L3; have sz4 := o4.size; have L4 : base ≤ w4.heap.size := Nat.le_trans L3 sz4; have lz4 := z4.lt; have lq4 := q4.lt)
    | (refine zI rfl rfl rfl q4 ?_)
    | (refine zEu rfl rfl rfl ?_)
    | (refine xV rfl rfl ?_; intro w5 S5 hb5; have z5 := z4.below hb5; have O5 := O4.below hb5; have q5 := q4.below hb5; have K5 := zV K4 L4 hb5; have sz5 := hb5.size; have L5 : base ≤ w5.heap.size := Nat.le_trans L4 sz5; have lz5 := z5.lt; have lq5 := q5.lt; have lS5 := S5.lt)
    | (refine st_s rfl rfl rfl rfl S5 (zB O5.hx) (zB O5.hy) rfl rfl ?_; rintro w6 S6 o6 -; have z6 := z5.onto o6 (by omega); have O6 := O5.at o6 (zF O5.hx S5 (by decide)) (zF O5.hy S5 (by decide)); have q6 := q5.onto o6 (by omega); have K6 := zW K5 o6 (by omega) L5; have sz6 := o6.size; have L6 : base ≤ w6.heap.size := Nat.le_trans L5 sz6; have lz6 := z6.lt; have lq6 := q6.lt; have lS6 := S6.lt; have ke6 := (sw S6).e; have hal : Below w6.heap.size w6 (w6.alloc (.cells #[.int .i64 (m.k + 5), .int .i64 2, .int .i64 C] 82)) := (Below.refl _ _).alloc (Nat.le_refl _) _; have hlit := xO fE okE w6.heap.size w6 #[.int .i64 (m.k + 5), .int .i64 2, .int .i64 C] [⟨m.k + 5, 2, C⟩] rfl (by unfold maxLen; simp) (Nat.le_refl _); have zl := z6.below hal; have Sl' := S6.below hal; have Ol := O6.below hal; have Kl := zV K6 L6 hal; have Ll := Ol.le)
    | (at_builtin; refine appF okE rfl (.tmp 50) (.tmp 56) rfl base [] [⟨m.k + 5, 2, C⟩] (OwnF.nil _ _ _) (hlit.sl okE) (by simp) (by omega) ?_; intro v7 w7 E7 hg7; have t7 := Mild.grown (base := base) vT (OwnF.nil fE base _) hg7; have z7 := t7.row zl zJ; have S7 := t7.row Sl' zJ; have O7 := t7.ow Ol; have K7 := zAt Kl Ll t7; have sz7 := t7.size; have L7 := O7.le; have lz7 := z7.lt; have lS7 := S7.lt)
    | (refine zHn (l := [⟨m.k + 5, 2, C⟩]) rfl rfl rfl rfl S7 (E7.one okE) ?_; rintro w8 S8 o8 -; have z8 := z7.onto o8 (by omega); have O8 := O7.at o8 (zF O7.hx S7 (by decide)) (zF O7.hy S7 (by decide)); have E8 := E7.onto o8 (E7.not_row S7 (by decide)); have K8 := zW K7 o8 (by omega) L7; have sz8 := o8.size; have L8 : base ≤ w8.heap.size := Nat.le_trans L7 sz8; have lz8 := z8.lt; have lS8 := S8.lt)
    | (refine zFr rfl rfl ?_)
    | (refine st_s rfl rfl rfl rfl z8 rfl rfl rfl rfl ?_; rintro wa za oa -; have Ka := zW K8 oa (by omega) L8))
   refine vQ rfl rfl za rfl rfl ?_
   rw [HX.out]
   exact ⟨Ka, .inr ⟨rfl, rfl⟩⟩
end Go.Proofs.YtamldhflkfbdnaaGreatDoor.Mem
namespace Go.Proofs.YtamldhflkfbdnaaGreatDoor.Reg
open Go.RowKit Base Rw

def zV5 (w0 : World) (T : TypeId) (ka n : Nat) (f : Nat → Value) (W : World) : Prop := ∃ b cs, f ka = .pointer (some ⟨b, 0, none⟩) ∧ w0.heap.size ≤ b ∧ Row W b cs T ∧ cs.size = n
def zQi (w0 : World) (T : TypeId) (ka : Nat) (cs : Array Value) (f : Nat → Value) (W : World) : Prop := ∃ b, f ka = .pointer (some ⟨b, 0, none⟩) ∧ w0.heap.size ≤ b ∧ Row W b cs T
def varT (ops : Array Oper) (w0 : World) (T : TypeId) (sa ss ka : Nat) (csX : Array Value) (vals : List Value) (j : Nat) (f : Nat → Value) (W : World) : Prop :=
 if j = sa then zV5 w0 T ka csX.size f W else if j = ss then zQi w0 T ka csX f W else vD ops vals j f W
def varR (w0 : World) (T : TypeId) (ss ka : Nat) (csX : Array Value) (i : Nat) (f : Nat → Value) (W W' : World) : Prop :=
 if i = ss then zQi w0 T ka csX f W' else Below W.heap.size W W'
section
variable {P : Program} {ops : Array Oper} {Q : Exit → Act → World → Prop} {sa ss ka : Nat} {T : TypeId} {csX : Array Value} {a0 a : Act} {L : Nat → Bool} {w w' w0 : World} {i : Nat} {o : Oper} {v : Value} {vals : List Value}
theorem zRc {n : Nat} (hds : zCi ops n = true) (hka : (ops[sa]?).bind (·.dst) = some ka) (hdep : zD6 ops ss sa = true) (hne : sa ≠ ss) : zCn ops (varT ops w0 T sa ss ka csX vals) (varR w0 T ss ka csX) := by
 intro L i j oi oj f f' w w' hi hj hLi hLj hd hf hT hR
 unfold varT at hT ⊢
 unfold varR at hR
 have hk : i ≠ sa → f' ka = f ka := fun i1 => hf ka (fun e => i1 (zEo hds (by rw [hi]; exact e) hka))
 by_cases j1 : j = sa
 ·rw [if_pos j1] at hT ⊢
  have i1 : i ≠ sa := fun e => by rw [e, ← j1, hLj] at hLi; cases hLi
  by_cases i2 : i = ss
  ·rw [if_pos i2] at hR
   obtain ⟨b, e, hb, hr⟩ := hR
   exact ⟨b, csX, e, hb, hr, rfl⟩
  ·rw [if_neg i2] at hR
   obtain ⟨b, cs, e, hb, hr, hn⟩ := hT
   exact ⟨b, cs, (hk i1).trans e, hb, hr.below hR, hn⟩
 ·rw [if_neg j1] at hT ⊢
  by_cases j2 : j = ss
  ·rw [if_pos j2] at hT ⊢
   have i1 : i ≠ sa := fun e => by
    have h1 := hdep
    unfold zD6 at h1
    rw [← j2, hj] at h1
    have := hd sa (List.contains_iff_mem.1 h1)
    rw [← e, hLi] at this; cases this
   have i2 : i ≠ ss := fun e => by rw [e, ← j2, hLj] at hLi; cases hLi
   rw [if_neg i2] at hR
   obtain ⟨b, e, hb, hr⟩ := hT
   exact ⟨b, (hk i1).trans e, hb, hr.below hR⟩
  ·rw [if_neg j2] at hT ⊢
   intro k hk
   rw [hf k (fun e => ?_)]
   ·exact hT k hk
   ·have : i = j := zEo hds (by rw [hi]; exact e) hk
    rw [this, hLj] at hLi; cases hLi
theorem InvG.valV {G : World → Prop} (h : InvG ops G (varT ops w0 T sa ss ka csX vals) a0 L a w) (hr : ∀ d ∈ deps o, L d = true) (j k : Nat) {oj : Oper} (hj : ops[j]? = some oj) (hk : oj.dst = some k) (hd : (deps o).contains j = true) (h1 : j ≠ sa) (h2 : j ≠ ss) : a.eval (.tmp k) = vals.getD j undef := by
 have := h.get hr j hj hd
 unfold varT at this
 rw [if_neg h1, if_neg h2] at this
 exact this k (by rw [hj]; exact hk)
theorem InvG.lastV {G : World → Prop} (h : InvG ops G (varT ops w0 T sa ss ka csX vals) a0 (fun _ => true) a w) (j k : Nat) (hj : (ops[j]?).bind (·.dst) = some k) (h1 : j ≠ sa) (h2 : j ≠ ss) : a.tmps.getD k undef = vals.getD j undef := by
 cases hq : ops[j]? with
 | none => simp [hq] at hj
 | some oj =>
  have := h.told j oj hq rfl
  unfold varT at this
  rw [if_neg h1, if_neg h2] at this
  exact this k hj
theorem zAv {id : Nat} (hm : P.follows .mixedOrders = true) (hac : acyc ops = true) (sa ss ka : Nat) (hsa : sa < ops.size) (hss : ss < ops.size) (hka : (ops[sa]?).bind (·.dst) = some ka) (hn2 : (ops[ss]?).bind (·.dst) = none) (hdep : zD6 ops ss sa = true) (hne : sa ≠ ss) (hds : zCi ops a0.tmps.size = true)
  (T : TypeId) (cs0 csX : Array Value) (h0 : cs0.size = csX.size) (vals : List Value)
  (step : ∀ (L : Nat → Bool) (i : Nat) (o : Oper) (a : Act) (W : World), i ≠ sa → i ≠ ss → ops[i]? = some o → InvG ops (fun W => Below w.heap.size w W) (varT ops w T sa ss ka csX vals) a0 L a W → Below w.heap.size w W → (∀ d ∈ deps o, L d = true) →
   wpOp P ops Q i (fun a' W' => ∃ v, a' = a.put o.dst v ∧ v = vals.getD i undef ∧ Below W.heap.size W W') a W)
  (alloc : ∀ (o : Oper) (a : Act) (W : World), ops[sa]? = some o → wpOp P ops Q sa (fun a' W' => a' = a.put o.dst (.pointer (some ⟨W.heap.size, 0, none⟩)) ∧ W' = W.alloc (.cells cs0 T)) a W)
  (store : ∀ (L : Nat → Bool) (o : Oper) (a : Act) (W : World) (b : Nat) (cs : Array Value), ops[ss]? = some o → InvG ops (fun W => Below w.heap.size w W) (varT ops w T sa ss ka csX vals) a0 L a W → (∀ d ∈ deps o, L d = true) → a.eval (.tmp ka) = .pointer (some ⟨b, 0, none⟩) → Row W b cs T → cs.size = csX.size →
   wpOp P ops Q ss (fun a' W' => a' = a.put o.dst undef ∧ Row W' b csX T ∧ Onto b W W') a W)
  (done : ∀ a W b, InvG ops (fun W => Below w.heap.size w W) (varT ops w T sa ss ka csX vals) a0 (fun _ => true) a W → Below w.heap.size w W → a.tmps.getD ka undef = .pointer (some ⟨b, 0, none⟩) → Row W b csX T → w.heap.size ≤ b → Q .normal a W) : (Code.region id ops true).wp P Q a0 w := by
 refine zGl hm hac (fun W => Below w.heap.size w W) (varT ops w T sa ss ka csX vals) (varR w T ss ka csX) (zRc hds hka hdep hne) ((Below.refl _ w).drew) ?_ ?_
 ·intro L i o a W hi hI hL hd
  have hB : Below w.heap.size w W := hI.g
  by_cases i1 : i = sa
  ·subst i1
   have hk' : o.dst = some ka := by rw [hi] at hka; exact hka
   refine wpOp_mono ?_ (alloc o a W hi)
   rintro a' W' ⟨rfl, rfl⟩
   have hb1 : Below W.heap.size W (W.alloc (.cells cs0 T)) := (Below.refl _ _).alloc (Nat.le_refl _) _
   refine ⟨_, rfl, ?_, zD hB hb1, ?_⟩
   ·unfold varT
    rw [if_pos rfl, hk']
    refine ⟨W.heap.size, cs0, ?_, hB.size, Row.new W cs0 T, h0⟩
    show (a.put (some ka) _).tmps.getD ka undef = _
    rw [zG _ _ _ (by rw [hI.size]; exact zE3 hds (i := i) (by rw [hi]; exact hk'))]
   ·unfold varR
    rw [if_neg hne]; exact hb1
  ·by_cases i2 : i = ss
   ·subst i2
    have hd1 : L sa = true := hd sa (by
     have h1 := hdep
     unfold zD6 at h1
     rw [hi] at h1
     exact List.contains_iff_mem.1 h1)
    obtain ⟨o1, ho1⟩ : ∃ o1, ops[sa]? = some o1 := ⟨_, Array.getElem?_eq_getElem hsa⟩
    have hT := hI.told sa o1 ho1 hd1
    unfold varT at hT
    rw [if_pos rfl] at hT
    obtain ⟨b, cs, e, hb, hr, hn⟩ := hT
    have hnd : o.dst = none := by rw [hi] at hn2; exact hn2
    refine wpOp_mono ?_ (store L o a W b cs hi hI hd e hr hn)
    rintro a' W' ⟨rfl, hr', hon⟩
    have hv : zQi w T ka csX (at_ (a.put o.dst undef)) W' := by rw [hnd]; exact ⟨b, e, hb, hr'⟩
    refine ⟨undef, rfl, ?_, zA hB hon hb, ?_⟩
    ·unfold varT
     rw [if_neg (Ne.symm hne), if_pos rfl]; exact hv
    ·unfold varR
     rw [if_pos rfl]; exact hv
   ·refine wpOp_mono ?_ (step L i o a W i1 i2 hi hI hB hd)
    rintro a' W' ⟨v, rfl, hv, hb⟩
    refine ⟨v, rfl, ?_, zD hB hb, ?_⟩
    ·unfold varT
     rw [if_neg i1, if_neg i2]
     intro k hk
     rw [hi] at hk
     have hk' : o.dst = some k := hk
     rw [hk']
     show (a.put (some k) v).tmps.getD k undef = _
     rw [zG _ _ _ (by rw [hI.size]; exact zE3 hds (i := i) (by rw [hi]; exact hk')), hv]
    ·unfold varR
     rw [if_neg i2]; exact hb
 ·intro a W hI
  obtain ⟨o2, ho2⟩ : ∃ o2, ops[ss]? = some o2 := ⟨_, Array.getElem?_eq_getElem hss⟩
  have hT2 := hI.told ss o2 ho2 rfl
  unfold varT at hT2
  rw [if_neg (Ne.symm hne), if_pos rfl] at hT2
  obtain ⟨b, e, hb, hr⟩ := hT2
  exact done a W b hI hI.g e hr hb
end
theorem InvG.vlV {ops : Array Oper} {w0 : World} {T : TypeId} {sa ss ka : Nat} {csX : Array Value} {a0 a : Act} {L : Nat → Bool} {w : World} {o : Oper} {vals : List Value} {G : World → Prop} (h : InvG ops G (varT ops w0 T sa ss ka csX vals) a0 L a w) (hr : ∀ d ∈ deps o, L d = true) (j : Nat) {k : Nat} {v : Value} (hv : zOb ops o vals sa ss j = some (k, v)) : a.eval (.tmp k) = v := by
 obtain ⟨n1, n2, hv⟩ := zGn hv
 obtain ⟨h1, h2, oj, h3, h4⟩ := zEz hv
 rw [h.valV hr j k h3 h4 h1 n1 n2, h2]
end Go.Proofs.YtamldhflkfbdnaaGreatDoor.Reg
namespace Go.Proofs.YtamldhflkfbdnaaGreatDoor.Mem
open Go.ChangeShapes Go.WideShapes Go.RowKit Base Num Slc Slf Rw Tmr Srl Rom Opl Reg

def vO (x y vo ve vi : Value) (s : St) (co fin : Int) : Array Value := #[x, y, .int .i64 s.m.a, .int .i64 s.m.b, .int .i64 s.m.pc, .int .i64 s.m.sp, .bool s.m.z, .bool s.m.c, .bool s.m.e, .bool s.m.h, .bool s.m.s, .int .i64 s.m.fl, .int .i64 s.m.ms, .int .i64 s.m.ky,
 .int .i64 s.m.t.c, .int .i64 s.m.t.v, .int .i64 s.m.t.s, .int .i64 s.m.t.m, .int .i64 s.m.p.d, .bool s.m.p.b, .bool s.m.p.l, .int .i64 s.m.p.n, .int .i64 s.m.p.x, .bool s.m.p.t, .int .i64 s.m.k, vo, ve, .int .i64 s.u, vi, .int .i64 co, .int .i64 fin]
def gval (x y vo ve vi : Value) (s : St) (co fin : Int) : Value := .agg (vO x y vo ve vi s co fin)
abbrev GRow (w : World) (g : Nat) (x y vo ve vi : Value) (s : St) (co fin : Int) : Prop := Row w g (vO x y vo ve vi s co fin) 99
theorem zNt : (Tryz.prog.info? 99).map (·.size) = some 31 := by kernel_rfl
structure Gcs (w : World) (g : Nat) (vo ve vi : Value) (s : St) (co fin : Int) : Prop where
 fl : w.cell? ⟨g, 11, none⟩ = some (.int .i64 s.m.fl)
 pd : w.cell? ⟨g, 18, none⟩ = some (.int .i64 s.m.p.d)
 px : w.cell? ⟨g, 22, none⟩ = some (.int .i64 s.m.p.x)
 o : w.cell? ⟨g, 25, none⟩ = some vo
 e : w.cell? ⟨g, 26, none⟩ = some ve
 u : w.cell? ⟨g, 27, none⟩ = some (.int .i64 s.u)
 vi : w.cell? ⟨g, 28, none⟩ = some vi
 co : w.cell? ⟨g, 29, none⟩ = some (.int .i64 co)
 fin : w.cell? ⟨g, 30, none⟩ = some (.int .i64 fin)
theorem gc {w : World} {g : Nat} {x y vo ve vi : Value} {s : St} {co fin : Int} (h : GRow w g x y vo ve vi s co fin) : Gcs w g vo ve vi s co fin := ⟨h.cell 11, h.cell 18, h.cell 22, h.cell 25, h.cell 26, h.cell 27, h.cell 28, h.cell 29, h.cell 30⟩
theorem zSa (x y vo ve vi : Value) (s : St) (co fin : Int) : (vO x y vo ve vi s co fin).extract 0 (0 + (xW x y vo ve s).size) = xW x y vo ve s := by kernel_rfl
theorem zSc (x y vo ve vi : Value) (s : St) (co fin : Int) : (vO x y vo ve vi s co fin).extract 18 (18 + 6) = #[.int .i64 s.m.p.d, .bool s.m.p.b, .bool s.m.p.l, .int .i64 s.m.p.n, .int .i64 s.m.p.x, .bool s.m.p.t] := by kernel_rfl
theorem zR9 (x y vo ve vi : Value) (s : St) (co fin : Int) : (vO x y vo ve vi s co fin).extract 14 (14 + 4) = #[.int .i64 s.m.t.c, .int .i64 s.m.t.v, .int .i64 s.m.t.s, .int .i64 s.m.t.m] := by kernel_rfl
theorem zSf {x y vo ve vi : Value} (hx : x.oneCell' = true) (hy : y.oneCell' = true) (ho : vo.oneCell' = true) (he : ve.oneCell' = true) (hi : vi.oneCell' = true) (s : St) (co fin : Int) : (vO x y vo ve vi s co fin).all (·.oneCell') = true := by
 unfold Value.oneCell' at hx hy ho he hi
 simp only [vO, List.all_toArray, List.all_cons, List.all_nil, Value.oneCell', hx, hy, ho, he, hi, Bool.and_true]
theorem zUj (x y vo ve : Value) (s : St) (co fin : Int) : Tryz.prog.built 99 [(0, s.val x y vo ve), (2, .int .i64 co), (3, .int .i64 fin)] = some (vO x y vo ve zY s co fin) := by kernel_rfl
section
variable {ops : Array Oper} {rest : List Oper} {op : Oper} {a : Act} {w : World} {K : Act → World → Prop} {Q : Exit → Act → World → Prop} {p q r1 r2 : Operand} {g k : Nat} {T : TypeId} {v x y vo ve vi : Value} {s : St} {co fin : Int}
theorem al_g (hgd : op.guard = none) (ho : op.op = .alloc 99)
  (h : ∀ w', GRow w' w.heap.size zY zY zY zY zY St.nul 0 0 → Below w.heap.size w w' → wpList Tryz.prog ops Q rest (a.put op.dst (.pointer (some ⟨w.heap.size, 0, none⟩))) w') : wpList Tryz.prog ops Q (op :: rest) a w :=
 wpList_plain hgd fun _ hK => by
  have e : (execOp a.eval op).run Tryz.prog w = .ok (.value (.pointer (some ⟨w.heap.size, 0, none⟩))) (w.alloc (.cells (vO zY zY zY zY zY St.nul 0 0) 99)) := by
   unfold execOp
   rw [ho]
   kernel_rfl
  unfold Oper.wp
  rw [e]
  exact hK _ _ (h _ (Row.new _ _ _) ((Below.refl _ _).alloc (Nat.le_refl _) _))
theorem bd_g (hgd : op.guard = none) (ho : op.op = .build 99 #[(0, p), (2, q), (3, r1)]) (hp : a.eval p = s.val x y vo ve) (hq : a.eval q = .int .i64 co) (hr : a.eval r1 = .int .i64 fin) (h : wpList Tryz.prog ops Q rest (a.put op.dst (gval x y vo ve zY s co fin)) w) : wpList Tryz.prog ops Q (op :: rest) a w :=
 wpList_plain hgd fun _ hK => zAr (parts := [(0, p), (2, q), (3, r1)]) (vals := [(0, s.val x y vo ve), (2, .int .i64 co), (3, .int .i64 fin)]) ho (by simp only [List.map_cons, List.map_nil, hp, hq, hr]) (zUj x y vo ve s co fin) (hK _ _ h)
theorem ld_g (hgd : op.guard = none) (ho : op.op = .load 99 p) (hx : a.eval p = .pointer (some ⟨g, 0, none⟩)) (hr : GRow w g x y vo ve vi s co fin)
  (h : wpList Tryz.prog ops Q rest (a.put op.dst (gval x y vo ve vi s co fin)) w) : wpList Tryz.prog ops Q (op :: rest) a w :=
 zF9 hgd _ p ho hx hr Tryz.underlying99 rfl zNt h
theorem st_g {x0 y0 o0 e0 i0 : Value} {s0 : St} {c0 f0 : Int} (hgd : op.guard = none) (ho : op.op = .store 99 p q) (hx : a.eval p = .pointer (some ⟨g, 0, none⟩)) (hy : a.eval q = gval x y vo ve vi s co fin) (hr : GRow w g x0 y0 o0 e0 i0 s0 c0 f0) (h1 : x.oneCell' = true) (h2 : y.oneCell' = true) (h3 : vo.oneCell' = true) (h4 : ve.oneCell' = true) (h5 : vi.oneCell' = true)
  (h : ∀ w', GRow w' g x y vo ve vi s co fin → Onto g w w' → w'.heap.size = w.heap.size → wpList Tryz.prog ops Q rest (a.put op.dst undef) w') : wpList Tryz.prog ops Q (op :: rest) a w :=
 zBf hgd _ p q ho hx hy hr zNt rfl (zSf h1 h2 h3 h4 h5 s co fin) h
theorem zWe (hgd : op.guard = none) (ho : op.op = .load 36 p) (hx : a.eval p = .pointer (some ⟨g, 0, none⟩)) (hr : GRow w g x y vo ve vi s co fin)
  (h : wpList Tryz.prog ops Q rest (a.put op.dst (s.val x y vo ve)) w) : wpList Tryz.prog ops Q (op :: rest) a w :=
 zJ2 (cs' := xW x y vo ve s) hgd ho hx hr Tryz.underlying36 rfl (zSa x y vo ve vi s co fin) zBo h
theorem zH8 (ho : op.op = .load 28 p) (hx : a.eval p = .pointer (some ⟨g, 18, none⟩)) (hr : GRow w g x y vo ve vi s co fin) (h : K (a.put op.dst s.m.p.val) w) : op.wp Tryz.prog a w K Q :=
 zFj (cs' := #[.int .i64 s.m.p.d, .bool s.m.p.b, .bool s.m.p.l, .int .i64 s.m.p.n, .int .i64 s.m.p.x, .bool s.m.p.t]) ho hx hr Tryz.underlying28 rfl (zSc x y vo ve vi s co fin) (by kernel_rfl) h
theorem zRp (ho : op.op = .load 26 p) (hx : a.eval p = .pointer (some ⟨g, 14, none⟩)) (hr : GRow w g x y vo ve vi s co fin) (h : K (a.put op.dst s.m.t.val) w) : op.wp Tryz.prog a w K Q :=
 zFj (cs' := #[.int .i64 s.m.t.c, .int .i64 s.m.t.v, .int .i64 s.m.t.s, .int .i64 s.m.t.m]) ho hx hr Tryz.underlying26 rfl (zR9 x y vo ve vi s co fin) (by kernel_rfl) h
theorem zLf {r : Sr} (hgd : op.guard = none) (ho : op.op = .store 28 p q) (hx : a.eval p = .pointer (some ⟨g, 18, none⟩)) (hy : a.eval q = r.val) (hr : GRow w g x y vo ve vi s co fin)
  (h : ∀ w', GRow w' g x y vo ve vi (s.port r) co fin → Onto g w w' → w'.heap.size = w.heap.size → wpList Tryz.prog ops Q rest (a.put op.dst undef) w') : wpList Tryz.prog ops Q (op :: rest) a w :=
 vG (vs := [.int .i64 r.d, .bool r.b, .bool r.l, .int .i64 r.n, .int .i64 r.x, .bool r.t]) (cs' := vO x y vo ve vi (s.port r) co fin) hgd ho hx hy hr rfl zD4 rfl rfl (by kernel_rfl) h
theorem zUr {t : Tm} (hgd : op.guard = none) (ho : op.op = .store 26 p q) (hx : a.eval p = .pointer (some ⟨g, 14, none⟩)) (hy : a.eval q = t.val) (hr : GRow w g x y vo ve vi s co fin)
  (h : ∀ w', GRow w' g x y vo ve vi { s with m := { s.m with t := t } } co fin → Onto g w w' → w'.heap.size = w.heap.size → wpList Tryz.prog ops Q rest (a.put op.dst undef) w') : wpList Tryz.prog ops Q (op :: rest) a w :=
 vG (vs := [.int .i64 t.c, .int .i64 t.v, .int .i64 t.s, .int .i64 t.m]) (cs' := vO x y vo ve vi { s with m := { s.m with t := t } } co fin) hgd ho hx hy hr rfl zE2 rfl rfl (by kernel_rfl) h
theorem zHo {z : Int} {s' : St} (hgd : op.guard = none) (ho : op.op = .store 2 p q) (hx : a.eval p = .pointer (some ⟨g, k, none⟩)) (hy : a.eval q = .int .i64 z) (hr : GRow w g x y vo ve vi s co fin) (hk : decide (k < 31) = true)
  (hcs : (vO x y vo ve vi s co fin).setIfInBounds k (.int .i64 z) = vO x y vo ve vi s' co fin)
  (h : ∀ w', GRow w' g x y vo ve vi s' co fin → Onto g w w' → w'.heap.size = w.heap.size → wpList Tryz.prog ops Q rest (a.put op.dst undef) w') : wpList Tryz.prog ops Q (op :: rest) a w :=
 vG (vs := [.int .i64 z]) hgd ho hx hy hr rfl zBb hk rfl hcs h
theorem zV8 {l : List M3} (hgd : op.guard = none) (ho : op.op = .store 31 p q) (hx : a.eval p = .pointer (some ⟨g, 25, none⟩)) (hy : a.eval q = v) (hr : GRow w g x y vo ve vi s co fin) (h1 : v.oneCell' = true)
  (h : ∀ w', GRow w' g x y v ve vi { s with o := l } co fin → Onto g w w' → w'.heap.size = w.heap.size → wpList Tryz.prog ops Q rest (a.put op.dst undef) w') : wpList Tryz.prog ops Q (op :: rest) a w :=
 vG (vs := [v]) (cs' := vO x y v ve vi { s with o := l } co fin) hgd ho hx hy hr (cells_one h1) (by kernel_rfl) rfl (by simp [h1]) rfl h
theorem zWa {l : List M3} (hgd : op.guard = none) (ho : op.op = .store 34 p q) (hx : a.eval p = .pointer (some ⟨g, 26, none⟩)) (hy : a.eval q = v) (hr : GRow w g x y vo ve vi s co fin) (h1 : v.oneCell' = true)
  (h : ∀ w', GRow w' g x y vo v vi { s with e := l } co fin → Onto g w w' → w'.heap.size = w.heap.size → wpList Tryz.prog ops Q rest (a.put op.dst undef) w') : wpList Tryz.prog ops Q (op :: rest) a w :=
 vG (vs := [v]) (cs' := vO x y vo v vi { s with e := l } co fin) hgd ho hx hy hr (cells_one h1) (by kernel_rfl) rfl (by simp [h1]) rfl h
theorem zV9 (hgd : op.guard = none) (ho : op.op = .store 31 p q) (hx : a.eval p = .pointer (some ⟨g, 28, none⟩)) (hy : a.eval q = v) (hr : GRow w g x y vo ve vi s co fin) (h1 : v.oneCell' = true)
  (h : ∀ w', GRow w' g x y vo ve v s co fin → Onto g w w' → w'.heap.size = w.heap.size → wpList Tryz.prog ops Q rest (a.put op.dst undef) w') : wpList Tryz.prog ops Q (op :: rest) a w :=
 vG (vs := [v]) (cs' := vO x y vo ve v s co fin) hgd ho hx hy hr (cells_one h1) (by kernel_rfl) rfl (by simp [h1]) rfl h
theorem zVc {z : Int} {cs : Array Value} (ho : op.op = .store 2 p q) (hx : a.eval p = .pointer (some ⟨g, k, none⟩)) (hy : a.eval q = .int .i64 z) (hr : Row w g cs T) (hk : k < cs.size)
  (h : ∀ w', Row w' g (cs.setIfInBounds k (.int .i64 z)) T → Onto g w w' → K (a.put op.dst undef) w') : op.wp Tryz.prog a w K Q := by
 have ht : w.there g k [Value.int .i64 z].length := hr.there k 1 (by omega)
 unfold Oper.wp execOp
 simp only [ho, hx, hy, Instr.storeAt, Instr.sureAddr, Sem.run_bind, Sem.run_pure, Result.andThen_ok, zA6 (P := Tryz.prog) w g k 2 (.int .i64 z) [.int .i64 z] rfl ht (by kernel_rfl) rfl]
 exact h _ (hr.cells [.int .i64 z] k) (zDg _ k _ _ (Onto.refl _ _))
theorem zI0 (ho : op.op = .alloc 28) (h : K (a.put op.dst (.pointer (some ⟨w.heap.size, 0, none⟩))) (w.alloc (.cells #[.int .i64 0, .bool false, .bool false, .int .i64 0, .int .i64 0, .bool false] 28))) : op.wp Tryz.prog a w K Q := by
 have e : (execOp a.eval op).run Tryz.prog w = .ok (.value (.pointer (some ⟨w.heap.size, 0, none⟩))) (w.alloc (.cells #[.int .i64 0, .bool false, .bool false, .int .i64 0, .int .i64 0, .bool false] 28)) := by
  unfold execOp
  rw [ho]
  kernel_rfl
 unfold Oper.wp
 rw [e]
 exact h
theorem zTg (ho : op.op = .alloc 26) (h : K (a.put op.dst (.pointer (some ⟨w.heap.size, 0, none⟩))) (w.alloc (.cells #[.int .i64 0, .int .i64 0, .int .i64 0, .int .i64 0] 26))) : op.wp Tryz.prog a w K Q := by
 have e : (execOp a.eval op).run Tryz.prog w = .ok (.value (.pointer (some ⟨w.heap.size, 0, none⟩))) (w.alloc (.cells #[.int .i64 0, .int .i64 0, .int .i64 0, .int .i64 0] 26)) := by
  unfold execOp
  rw [ho]
  kernel_rfl
 unfold Oper.wp
 rw [e]
 exact h
theorem zAo {ty : TypeId} {cells cs : Array Value} (ho : op.op = .store ty p q) (hx : a.eval p = .pointer (some ⟨g, 0, none⟩)) (hy : a.eval q = .agg cells) (hr : Row w g cs T) (hi : (Tryz.prog.info? ty).map (·.size) = some cells.size) (hold : cs.size = cells.size) (h1 : cells.all (·.oneCell') = true)
  (h : ∀ w', Row w' g cells T → Onto g w w' → K (a.put op.dst undef) w') : op.wp Tryz.prog a w K Q :=
 wp_store_row _ _ _ ho g cells hx hy _ _ hr.row hi hold h1
  (h _ (Row.of (setRow_heap w g cs cells _ _ hr.row)) ⟨rfl, rfl, rfl, by simp, fun k hk _ => setRow_other w g k _ hk⟩)
end
structure Mid (base g : Nat) (w w' : World) : Prop where
 os : w'.os = w.os
 tape : w'.tape = w.tape
 output : w'.output = w.output
 size : w.heap.size ≤ w'.heap.size
 block : ∀ k, k < w.heap.size → k ≠ g → (k < base ∨ ∀ cs T fz, w.heap[k]? = some (.cells cs T fz) → Plain T) → w'.heap[k]? = w.heap[k]?
section
variable {base g : Nat} {w w' w'' : World}
theorem Mid.of (h : Below w.heap.size w w') : Mid base g w w' := ⟨h.os, h.tape, h.output, h.size, fun k hk _ _ => h.block k hk⟩
theorem Mid.refl (base g : Nat) (w : World) : Mid base g w w := .of (Below.refl _ _)
theorem Mid.mild (h : Mild base w w') : Mid base g w w' := ⟨h.os, h.tape, h.output, h.size, fun k hk _ hp => h.block k hk hp⟩
theorem Mid.onto (h : Onto g w w') : Mid base g w w' := ⟨h.os, h.tape, h.output, h.size, fun k hk hg _ => h.block k hg hk⟩
theorem Mid.trans (h : Mid base g w w') (k : Mid base g w' w'') : Mid base g w w'' :=
 ⟨k.os.trans h.os, k.tape.trans h.tape, k.output.trans h.output, Nat.le_trans h.size k.size, fun j hj hg hp => by
  have e := h.block j hj hg hp
  refine (k.block j (Nat.lt_of_lt_of_le hj h.size) hg ?_).trans e
  rw [e]; exact hp⟩
theorem Mid.new {p : Nat} (h : Mid base g w w') (ho : Onto p w' w'') (hp : w.heap.size ≤ p) : Mid base g w w'' :=
 ⟨ho.os.trans h.os, ho.tape.trans h.tape, ho.output.trans h.output, Nat.le_trans h.size ho.size, fun k hk hg hq => by
  have := h.size
  rw [ho.block k (by omega) (by omega)]; exact h.block k hk hg hq⟩
theorem Mid.row (h : Mid base g w w') {b : Nat} {cs : Array Value} {T : TypeId} (hr : Row w b cs T) (hT : Plain T) (hb : b ≠ g) : Row w' b cs T :=
 hr.keep (h.block b hr.lt hb (.inr fun cs' T' fz e => by
  rw [hr.row] at e
  simp only [Option.some.injEq, Obj.cells.injEq] at e
  exact e.2.1 ▸ hT))
theorem Mid.old (h : Mid base g w w') (hbg : base ≤ g) {α : Type} {f : Fl α} {v : Value} {l : List α} (hs : SlF f w v l) (hv : 0 < l.length → ∀ k, v.ownBlock = some k → k < base) : SlF f w' v l := by
 obtain ⟨a, cap, rfl, h1, h2⟩ := hs
 exact ⟨a, cap, rfl, h1.keep h.size (fun h0 x hx => h.block _ (h1.lt h0 x hx) (by have := hv h0 _ (by subst hx; rfl); omega) (.inl (hv h0 _ (by subst hx; rfl)))), h2⟩
theorem Mid.below (h : Mid base g w w') (hbg : base ≤ g) (hs : base ≤ w.heap.size) : Below base w w' := ⟨h.os, h.tape, h.output, h.size, fun k hk => h.block k (by omega) (by omega) (.inl hk)⟩
end
theorem xE : Plain 99 := ⟨by decide, by decide⟩
def Gd (base g : Nat) (w w' : World) (x y vi : Value) (co fin : Int) (s : St) : Prop := ∃ vo ve, GRow w' g x y vo ve vi s co fin ∧ So base w' x y vo ve s ∧ Mid base g w w'
end Go.Proofs.YtamldhflkfbdnaaGreatDoor.Mem
namespace Go.Proofs.YtamldhflkfbdnaaGreatDoor.Srl
open Go.ChangeShapes Go.WideShapes Go.RowKit Base Num Slc Rw Reg Tmr

def xN (s : Sr) (bit at_ : Int) (r : Sr × Bool) (w : World) : Prop :=
  Calls Tryz.prog 212 #[s.val, .int .i64 bit, .int .i64 at_] w fun e w' => e = .returned (.tuple #[r.1.val, .bool r.2]) ∧ Below w.heap.size w w'
set_option maxHeartbeats 2000000 in
theorem zP6 (s : Sr) (bit at_ : Int) (w : World) (hok : s.ok = false) : xN s bit at_ (Sr.nul, false) w := by
 unfold xN
 rw [Sr.eta s]
 go_enter Tryz.func212, Tryz.ntmps212
 go_wp2_with (first
  | (go_at_call 87; refine (qG s _).mono ?_; rintro e w1 ⟨rfl, hb⟩; rw [hok]; obtain ⟨r1, r2, hB⟩ := box2 hb)
  | (refine qY rfl rfl rfl rfl r2 rfl ?_; intro w2 r3 ho2 hs2))
 refine qN rfl rfl r3 qF rfl zU rfl rfl ?_
 exact ⟨rfl, zA hB ho2 (by omega)⟩
set_option maxHeartbeats 2000000 in
theorem zUq (s : Sr) (bit at_ : Int) (w : World) (hok : s.ok = true) (hbit : inn bit 0 1 = false) : xN s bit at_ (Sr.nul, false) w := by
 unfold xN
 rw [Sr.eta s]
 go_enter Tryz.func212, Tryz.ntmps212
 go_wp2_with (first
  | (go_at_call 87; refine (qG s _).mono ?_; rintro e w1 ⟨rfl, hb⟩; rw [hok]; obtain ⟨r1, r2, hB⟩ := box2 hb)
  | (go_at_call 158; refine (jG _ _).mono ?_; rintro e w1 ⟨rfl, rfl⟩; rw [hbit])
  | (refine qY rfl rfl rfl rfl r2 rfl ?_; intro w2 r3 ho2 hs2))
 refine qN rfl rfl r3 qF rfl zU rfl rfl ?_
 exact ⟨rfl, zA hB ho2 (by omega)⟩
set_option maxHeartbeats 2000000 in
theorem zP7 (s : Sr) (bit at_ : Int) (w : World) (hok : s.ok = true) (hbit : inn bit 0 1 = true) (h0 : at_ < 0) : xN s bit at_ (Sr.nul, false) w := by
 unfold xN
 rw [Sr.eta s]
 ·go_enter Tryz.func212, Tryz.ntmps212
  go_wp2_with (first
   | (go_at_call 87; refine (qG s _).mono ?_; rintro e w1 ⟨rfl, hb⟩; rw [hok]; obtain ⟨r1, r2, hB⟩ := box2 hb)
   | (go_at_call 158; refine (jG _ _).mono ?_; rintro e w1 ⟨rfl, rfl⟩; rw [hbit])
   | (refine qY rfl rfl rfl rfl r2 rfl ?_; intro w2 r3 ho2 hs2))
  refine qN rfl rfl r3 qF rfl zU rfl rfl ?_
  exact ⟨rfl, zA hB ho2 (by omega)⟩
set_option maxHeartbeats 2000000 in
theorem zTd (s : Sr) (bit at_ : Int) (w : World) (hok : s.ok = true) (hbit : inn bit 0 1 = true) (h0 : ¬ at_ < 0) (h1 : 999999968 < at_) : xN s bit at_ (Sr.nul, false) w := by
 unfold xN
 rw [Sr.eta s]
 go_enter Tryz.func212, Tryz.ntmps212
 go_wp2_with (first
  | (go_at_call 87; refine (qG s _).mono ?_; rintro e w1 ⟨rfl, hb⟩; rw [hok]; obtain ⟨r1, r2, hB⟩ := box2 hb)
  | (go_at_call 158; refine (jG _ _).mono ?_; rintro e w1 ⟨rfl, rfl⟩; rw [hbit])
  | (refine qY rfl rfl rfl rfl r2 rfl ?_; intro w2 r3 ho2 hs2))
 refine qN rfl rfl r3 qF rfl zU rfl rfl ?_
 exact ⟨rfl, zA hB ho2 (by omega)⟩
set_option maxHeartbeats 2000000 in
theorem zTb (d n x : Int) (b l : Bool) (bit at_ : Int) (w : World) (hok : (Sr.mk d b l n x false).ok = true) (hbit : inn bit 0 1 = true) (ha' : 0 ≤ at_ ∧ at_ ≤ 999999968) : xN ⟨d, b, l, n, x, false⟩ bit at_ (⟨d, b, l, n, x, false⟩, false) w := by
 unfold xN
 rw [Sr.eta]
 go_enter Tryz.func212, Tryz.ntmps212
 go_wp2_with (first
  | (go_at_call 87; refine (qG ⟨d, b, l, n, x, false⟩ _).mono ?_; rintro e w1 ⟨rfl, hb⟩; rw [hok]; obtain ⟨r1, r2, hB⟩ := box2 hb; clear hb; have c1 := r1.cell)
  | (go_at_call 158; refine (jG _ _).mono ?_; rintro e w1 ⟨rfl, rfl⟩; rw [hbit])
  | (go_at_call 165; refine (xK ⟨d, b, l, n, x, false⟩ _).mono ?_; rintro e w3 ⟨rfl, hb3⟩; replace r1 := r1.below hb3; replace r2 := r2.below hb3; replace hB := zD hB hb3; clear hb3; rw [Sr.eta_port])
  | (refine jM rfl rfl rfl rfl (Row.new _ _ _) rfl ?_; intro w2 r4 ho2 hs2; replace r1 := (r1.alloc _).onto ho2 (Nat.ne_of_lt r1.lt); replace r2 := (r2.alloc _).onto ho2 (Nat.ne_of_lt r2.lt); replace hB := zA (hB.alloc hB.size _) ho2 hB.size; have c4 := r4.cell; have c1 := r1.cell; clear ho2 hs2)
  | (refine qY rfl rfl rfl rfl r2 rfl ?_; intro w2 r3 ho2 hs2))
 refine qN rfl rfl r3 qF rfl zU rfl rfl ?_
 exact ⟨rfl, zA hB ho2 (by omega)⟩
set_option maxHeartbeats 2000000 in
theorem zTe (d bit at_ : Int) (w : World) (hok : (Sr.mk d true true 1 0 true).ok = true) (hbit : inn bit 0 1 = true) (hb' : 0 ≤ bit ∧ bit ≤ 1) (ha' : 0 ≤ at_ ∧ at_ ≤ 999999968) (hd : 0 ≤ d ∧ d ≤ 255) : xN ⟨d, true, true, 1, 0, true⟩ bit at_ (⟨2 * d % 256 + bit, false, false, 0, 0, false⟩, true) w := by
 unfold xN
 rw [Sr.eta]
 go_enter Tryz.func212, Tryz.ntmps212
 go_wp2_with (first
  | (go_at_call 87; refine (qG ⟨d, true, true, 1, 0, true⟩ _).mono ?_; rintro e w1 ⟨rfl, hb⟩; rw [hok]; obtain ⟨r1, r2, hB⟩ := box2 hb; clear hb; have c1 := r1.cell)
  | (go_at_call 158; refine (jG _ _).mono ?_; rintro e w1 ⟨rfl, rfl⟩; rw [hbit])
  | (go_at_call 165; refine (xK ⟨d, true, true, 1, 0, true⟩ _).mono ?_; rintro e w3 ⟨rfl, hb3⟩; replace r2 := r2.below hb3; replace hB := zD hB hb3; clear hb3; rw [Sr.eta_port])
  | (refine jM rfl rfl rfl rfl (Row.new _ _ _) rfl ?_; intro w2 r4 ho2 hs2; have n5 : w.heap.size + 1 ≠ _ := Nat.ne_of_lt r2.lt; have hB0 := hB.size; replace r2 := (r2.alloc _).onto ho2 (Nat.ne_of_lt r2.lt); replace hB := zA (hB.alloc hB.size _) ho2 hB.size; have c4 := r4.cell; clear ho2 hs2)
  | (go_at_call 289; refine (zB3 _ _ _ _ hd hb' (by omega)).mono ?_; rintro e w5 ⟨rfl, hb5⟩; replace r2 := r2.below hb5; replace r4 := r4.below hb5; replace hB := zD hB hb5; clear hb5)
  | (refine zKd rfl rfl rfl rfl r4 vF rfl ?_; intro w6 r7 ho6 hs6; simp only [List.setIfInBounds_toArray, List.set_cons_succ, List.set_cons_zero, Nat.zero_add] at r7; replace r2 := r2.onto ho6 n5; replace hB := zA hB ho6 hB0; have c7 := r7.cell; clear ho6 hs6)
  | (go_at_call 290; refine (zAe _ _ _).mono ?_; rintro e w8 ⟨rfl, hb8⟩; replace r2 := r2.below hb8; replace r7 := r7.below hb8; have c7 := r7.cell; replace hB := zD hB hb8; clear hb8)
  | (refine qY rfl rfl rfl rfl r2 rfl ?_; intro w2 r3 ho2 hs2))
 refine qN rfl rfl r3 qF rfl zU rfl rfl ?_
 exact ⟨rfl, zA hB ho2 (by omega)⟩
set_option maxHeartbeats 2000000 in
theorem zTc (d n bit at_ : Int) (w : World) (hok : (Sr.mk d true true n 0 true).ok = true) (hbit : inn bit 0 1 = true) (hb' : 0 ≤ bit ∧ bit ≤ 1) (ha' : 0 ≤ at_ ∧ at_ ≤ 999999968) (hd : 0 ≤ d ∧ d ≤ 255) (hn : 1 ≤ n ∧ n ≤ 8) (h0 : decide (n - 1 = 0) = false) : xN ⟨d, true, true, n, 0, true⟩ bit at_ (⟨2 * d % 256 + bit, true, true, n - 1, at_ + 32, false⟩, false) w := by
 unfold xN
 rw [Sr.eta]
 go_enter Tryz.func212, Tryz.ntmps212
 go_wp2_with (first
  | (go_at_call 87; refine (qG ⟨d, true, true, n, 0, true⟩ _).mono ?_; rintro e w1 ⟨rfl, hb⟩; rw [hok]; obtain ⟨r1, r2, hB⟩ := box2 hb; clear hb; have c1 := r1.cell)
  | (go_at_call 158; refine (jG _ _).mono ?_; rintro e w1 ⟨rfl, rfl⟩; rw [hbit])
  | (go_at_call 165; refine (xK ⟨d, true, true, n, 0, true⟩ _).mono ?_; rintro e w3 ⟨rfl, hb3⟩; replace r2 := r2.below hb3; replace hB := zD hB hb3; clear hb3; rw [Sr.eta_port])
  | (refine jM rfl rfl rfl rfl (Row.new _ _ _) rfl ?_; intro w2 r4 ho2 hs2; have n5 : w.heap.size + 1 ≠ _ := Nat.ne_of_lt r2.lt; have hB0 := hB.size; replace r2 := (r2.alloc _).onto ho2 (Nat.ne_of_lt r2.lt); replace hB := zA (hB.alloc hB.size _) ho2 hB.size; have c4 := r4.cell; clear ho2 hs2)
  | (go_at_call 289; refine (zB3 _ _ _ _ hd hb' hn).mono ?_; rintro e w5 ⟨rfl, hb5⟩; replace r2 := r2.below hb5; replace r4 := r4.below hb5; replace hB := zD hB hb5; clear hb5)
  | (refine zKd rfl rfl rfl rfl r4 vF rfl ?_; intro w6 r7 ho6 hs6; simp only [List.setIfInBounds_toArray, List.set_cons_succ, List.set_cons_zero, Nat.zero_add] at r7; replace r2 := r2.onto ho6 n5; replace hB := zA hB ho6 hB0; have c7 := r7.cell; clear ho6 hs6)
  | (go_at_call 290; refine (zAe _ _ _).mono ?_; rintro e w8 ⟨rfl, hb8⟩; rw [h0]; replace r2 := r2.below hb8; replace r7 := r7.below hb8; have c7 := r7.cell; replace hB := zD hB hb8; clear hb8)
  | (refine st_flag rfl rfl rfl rfl r7 zEn rfl ?_; intro w9 r9 ho9 hs9; simp only [List.setIfInBounds_toArray, List.set_cons_succ, List.set_cons_zero] at r9; replace r2 := r2.onto ho9 n5; replace hB := zA hB ho9 hB0; have c9 := r9.cell; clear ho9 hs9)
  | (refine zM9 rfl rfl rfl rfl r9 zId rfl ?_; intro w10 r10 ho10 hs10; simp only [List.setIfInBounds_toArray, List.set_cons_succ, List.set_cons_zero] at r10; replace r2 := r2.onto ho10 n5; replace hB := zA hB ho10 hB0; have c10 := r10.cell; clear ho10 hs10)
  | (go_at_call 287; refine (zAy ⟨2 * d % 256 + bit, true, true, n - 1, at_ + 32, false⟩ _).mono ?_; rintro e w3 ⟨rfl, hb3⟩; replace r2 := r2.below hb3; replace hB := zD hB hb3; rw [Sr.eta])
  | (refine qY rfl rfl rfl rfl r2 rfl ?_; intro w2 r3 ho2 hs2))
 refine qN rfl rfl r3 qF rfl zU rfl rfl ?_
 exact ⟨rfl, zA hB ho2 (by omega)⟩
theorem zCp (s : Sr) (bit at_ : Int) (w : World) :
  Calls Tryz.prog 212 #[s.val, .int .i64 bit, .int .i64 at_] w fun e w' => e = .returned (.tuple #[(s.answer bit at_).1.val, .bool (s.answer bit at_).2]) ∧ Below w.heap.size w w' := by
 show xN s bit at_ (s.answer bit at_) w
 cases hok : s.ok
 ·rw [show s.answer bit at_ = (Sr.nul, false) by simp [Sr.answer, hok]]
  exact zP6 s bit at_ w hok
 cases hbit : inn bit 0 1
 ·rw [show s.answer bit at_ = (Sr.nul, false) by simp [Sr.answer, hbit]]
  exact zUq s bit at_ w hok hbit
 cases hat : inn at_ 0 999999968
 ·rw [show s.answer bit at_ = (Sr.nul, false) by simp [Sr.answer, hat]]
  have hat' := zEm hat
  by_cases h0 : at_ < 0
  ·exact zP7 s bit at_ w hok hbit h0
  ·exact zTd s bit at_ w hok hbit h0 (by omega)
 have ha' := qU hat
 have hb' := qU hbit
 cases ht : s.t
 ·rw [show s.answer bit at_ = (s, false) by simp [Sr.answer, hok, hbit, hat, ht]]
  obtain ⟨d, b, l, n, x, t⟩ := s
  simp only at ht
  subst ht
  exact zTb d n x b l bit at_ w hok hbit ha'
 ·obtain ⟨hl, hbu, hx⟩ := Sr.ok_wait hok ht
  have hn := Sr.ok_busy hok hbu
  have hd := (Sr.ok_true hok).1
  obtain ⟨d, b, l, n, x, t⟩ := s
  simp only at ht hl hbu hx hn hd
  subst ht hl hbu hx
  by_cases h1 : n = 1
  ·subst h1
   rw [show (Sr.mk d true true 1 0 true).answer bit at_ = (⟨2 * d % 256 + bit, false, false, 0, 0, false⟩, true) by simp [Sr.answer, hok, hbit, hat]]
   exact zTe d bit at_ w hok hbit hb' ha' hd
  ·rw [show (Sr.mk d true true n 0 true).answer bit at_ = (⟨2 * d % 256 + bit, true, true, n - 1, at_ + 32, false⟩, false) by simp [Sr.answer, hok, hbit, hat, h1]]
   exact zTc d n bit at_ w hok hbit hb' ha' hd hn (by simp; omega)
structure Gp (w : World) (b4 b7 : Nat) (o : Sr) (W : World) : Prop where
 r7 : Row W b7 #[.int .i64 o.d, .int .i64 o.n, .bool o.b, .bool o.l, .int .i64 o.x, .bool o.t] 187
 r4 : ∃ cs : Array Value, cs.size = 6 ∧ Row W b4 cs 28
 bel : Below w.heap.size w W
theorem Gp.drew {w W : World} {b4 b7 : Nat} {o : Sr} (h : Gp w b4 b7 o W) : Gp w b4 b7 o W.drew := ⟨h.r7.drewN 1, h.r4.imp fun _ ⟨e, r⟩ => ⟨e, r.drewN 1⟩, h.bel.drew⟩
theorem Gp.below {w W W' : World} {b4 b7 : Nat} {o : Sr} (h : Gp w b4 b7 o W) (hb : Below W.heap.size W W') : Gp w b4 b7 o W' := ⟨h.r7.below hb, h.r4.imp fun _ ⟨e, r⟩ => ⟨e, r.below hb⟩, zD h.bel hb⟩
theorem Gp.store {w W : World} {b4 b7 : Nat} {o : Sr} (h : Gp w b4 b7 o W) (h7 : b7 ≠ b4) (hw : w.heap.size ≤ b4) (cs : Array Value) (hcs : cs.size = 6) : Gp w b4 b7 o (W.setRow b4 cs) := by
 obtain ⟨old, e, r⟩ := h.r4
 exact ⟨h.r7.onto (jZ cs) h7, ⟨cs, hcs, Row.of (setRow_heap W _ _ _ _ _ r.row)⟩, zA h.bel (jZ cs) hw⟩
def zAl (s : Sr) (upto : Int) (r : Sr × Int × Int) (w : World) : Prop :=
  Calls Tryz.prog 208 #[s.val, .int .i64 upto] w fun e w' => e = .returned (.tuple #[r.1.val, .int .i64 r.2.1, .int .i64 r.2.2]) ∧ Below w.heap.size w w'
set_option maxHeartbeats 2000000 in
theorem zLi (s : Sr) (upto : Int) (w : World) (hok : s.ok = false) : zAl s upto (Sr.nul, -1, 0) w := by
 unfold zAl
 rw [Sr.eta]
 go_enter Tryz.func208, Tryz.ntmps208
 go_wp2_with (first
  | (go_at_call 87; refine (qG s _).mono ?_; rintro e w1 ⟨rfl, hb⟩; rw [hok]; obtain ⟨r1, r2, hB⟩ := box2 hb; clear hb; have c1 := r1.cell)
  | (go_at_call 165; refine (xK s _).mono ?_; rintro e w3 ⟨rfl, hb3⟩; replace r1 := r1.below hb3; replace r2 := r2.below hb3; replace hB := zD hB hb3; clear hb3; rw [Sr.eta_port])
  | (refine jM rfl rfl rfl rfl (Row.new _ _ _) rfl ?_; intro w2 r4 ho2 hs2; replace r1 := (r1.alloc _).onto ho2 (Nat.ne_of_lt r1.lt); replace r2 := (r2.alloc _).onto ho2 (Nat.ne_of_lt r2.lt); replace hB := zA (hB.alloc hB.size _) ho2 hB.size; have c4 := r4.cell; have c1 := r1.cell; clear ho2 hs2)
  | (refine qY rfl rfl rfl rfl r2 rfl ?_; intro w2 r3 ho2 hs2))
 refine qO rfl rfl r3 qF rfl zU rfl rfl rfl ?_
 exact ⟨rfl, zA hB ho2 (by omega)⟩
set_option maxHeartbeats 2000000 in
theorem zNb (d n : Int) (b l t : Bool) (upto : Int) (w : World) (hok : (Sr.mk d b l n 0 t).ok = true) : zAl ⟨d, b, l, n, 0, t⟩ upto (⟨d, b, l, n, 0, t⟩, -1, 0) w := by
 unfold zAl
 rw [Sr.eta]
 go_enter Tryz.func208, Tryz.ntmps208
 go_wp2_with (first
  | (go_at_call 87; refine (qG ⟨d, b, l, n, 0, t⟩ _).mono ?_; rintro e w1 ⟨rfl, hb⟩; rw [hok]; obtain ⟨r1, r2, hB⟩ := box2 hb; clear hb; have c1 := r1.cell)
  | (go_at_call 165; refine (xK ⟨d, b, l, n, 0, t⟩ _).mono ?_; rintro e w3 ⟨rfl, hb3⟩; replace r1 := r1.below hb3; replace r2 := r2.below hb3; replace hB := zD hB hb3; clear hb3; rw [Sr.eta_port])
  | (refine jM rfl rfl rfl rfl (Row.new _ _ _) rfl ?_; intro w2 r4 ho2 hs2; replace r1 := (r1.alloc _).onto ho2 (Nat.ne_of_lt r1.lt); replace r2 := (r2.alloc _).onto ho2 (Nat.ne_of_lt r2.lt); replace hB := zA (hB.alloc hB.size _) ho2 hB.size; have c4 := r4.cell; have c1 := r1.cell; clear ho2 hs2)
  | (refine qY rfl rfl rfl rfl r2 rfl ?_; intro w2 r3 ho2 hs2))
 refine qO rfl rfl r3 qF rfl zU rfl rfl rfl ?_
 exact ⟨rfl, zA hB ho2 (by omega)⟩
set_option maxHeartbeats 2000000 in
theorem zLj (s : Sr) (upto : Int) (w : World) (hok : s.ok = true) (h0 : (s.x == 0) = false) (h1 : upto < s.x) : zAl s upto (s, -1, 0) w := by
 unfold zAl
 rw [Sr.eta s]
 go_enter Tryz.func208, Tryz.ntmps208
 go_wp2_with (first
  | (go_at_call 87; refine (qG s _).mono ?_; rintro e w1 ⟨rfl, hb⟩; rw [hok]; obtain ⟨r1, r2, hB⟩ := box2 hb; clear hb; have c1 := r1.cell)
  | (go_at_call 165; refine (xK s _).mono ?_; rintro e w3 ⟨rfl, hb3⟩; replace r1 := r1.below hb3; replace r2 := r2.below hb3; replace hB := zD hB hb3; clear hb3; rw [Sr.eta_port])
  | (refine jM rfl rfl rfl rfl (Row.new _ _ _) rfl ?_; intro w2 r4 ho2 hs2; replace r1 := (r1.alloc _).onto ho2 (Nat.ne_of_lt r1.lt); replace r2 := (r2.alloc _).onto ho2 (Nat.ne_of_lt r2.lt); replace hB := zA (hB.alloc hB.size _) ho2 hB.size; have c4 := r4.cell; have c1 := r1.cell; clear ho2 hs2)
  | (refine qY rfl rfl rfl rfl r2 rfl ?_; intro w2 r3 ho2 hs2))
 refine qO rfl rfl r3 qF rfl zU rfl rfl rfl ?_
 exact ⟨rfl, zA hB ho2 (by omega)⟩
set_option maxHeartbeats 2000000 in
theorem zOw (s : Sr) (upto : Int) (w : World) (hok : s.ok = true) (hd : 0 ≤ s.d ∧ s.d ≤ 255) (h0 : (s.x == 0) = false) (h1 : ¬ upto < s.x) : zAl s upto (⟨s.d, s.b, s.l, s.n, 0, true⟩, s.x, s.d / 128) w := by
 unfold zAl
 rw [Sr.eta s]
 generalize ho : (⟨s.d, s.b, s.l, s.n, 0, true⟩ : Sr) = out
 have hod : 0 ≤ out.d ∧ out.d ≤ 255 := by subst ho; exact hd
 have hde : s.d / 128 = out.d / 128 := by subst ho; rfl
 show Calls Tryz.prog _ _ _ fun e w' => e = .returned (.tuple #[out.val, .int .i64 s.x, .int .i64 (s.d / 128)]) ∧ _
 rw [hde]
 generalize hb4 : w.heap.size + 1 = b4
 have h4 : w.heap.size ≤ b4 := by omega
 clear hde
 go_enter Tryz.func208, Tryz.ntmps208
 go_wp2_with (first
  | (go_at_call 87; refine (qG s _).mono ?_; rintro e w1 ⟨rfl, hb⟩; rw [hok]; obtain ⟨r1, r2, hB⟩ := box2 hb; clear hb; have c1 := r1.cell)
  | (go_at_call 165; refine (xK s _).mono ?_; rintro e w3 ⟨rfl, hb3⟩; replace r1 := r1.below hb3; replace r2 := r2.below hb3; replace hB := zD hB hb3; clear hb3; rw [Sr.eta_port])
  | (refine jM rfl rfl rfl rfl (Row.new _ _ _) rfl ?_; intro w2 r4 ho2 hs2; have n5 : w.heap.size + 1 ≠ _ := Nat.ne_of_lt r2.lt; have hB0 := hB.size; replace r2 := (r2.alloc _).onto ho2 (Nat.ne_of_lt r2.lt); replace hB := zA (hB.alloc hB.size _) ho2 hB.size; have c4 := r4.cell; clear ho2 hs2)
  | (refine st_flag rfl rfl rfl rfl r4 zEn rfl ?_; intro w6 r6 ho6 hs6; simp only [List.setIfInBounds_toArray, List.set_cons_succ, List.set_cons_zero] at r6; replace r2 := r2.onto ho6 n5; replace hB := zA hB ho6 hB0; clear ho6 hs6)
  | (refine zM9 rfl rfl rfl rfl r6 zId rfl ?_; intro w7 r7 ho7 hs7; simp only [List.setIfInBounds_toArray, List.set_cons_succ, List.set_cons_zero] at r7; replace r2 := r2.onto ho7 n5; replace hB := zA hB ho7 hB0; clear ho7 hs7))
 have r8 : Row w7 w3.heap.size #[.int .i64 out.d, .int .i64 out.n, .bool out.b, .bool out.l, .int .i64 out.x, .bool out.t] 187 := by subst ho; exact r7
 have h74 : w3.heap.size ≠ b4 := by omega
 have hG : Gp w b4 w3.heap.size out w7 := ⟨r8, ⟨_, rfl, hb4 ▸ r2⟩, hB⟩
 clear r1 r2 r4 r6 r7 r8 hB n5 hB0 hb4 h0 h1 hd hok ho
 generalize w3.heap.size = b7 at *
 refine xZ (by kernel_rfl) (by kernel_rfl) (fun W => Gp w b4 b7 out W)
  (kinds [KIs (.agg #[.int .i64 out.d, .int .i64 out.n, .bool out.b, .bool out.l, .int .i64 out.x, .bool out.t]), KIs (.agg #[.int .i64 out.d, .bool out.b, .bool out.l, .int .i64 out.n, .int .i64 out.x, .bool out.t]), KIs (.int .i64 s.x), KIs (.pointer (some ⟨b7, 0, none⟩)), KIs (.agg #[.int .i64 out.d, .int .i64 out.n]), KIs (.int .i64 (out.d / 128)), KRow b4 #[.int .i64 out.d, .bool out.b, .bool out.l, .int .i64 out.n, .int .i64 out.x, .bool out.t] 28, KIs (.int .i64 s.x), KIs (.int .i64 (out.d / 128))])
  (steps 6 (fun k => k = b4) (fun _ => False)) (by kernel_rfl) (vZ ?hY ?hX) hG.drew ?step ?done
 case hY =>
  intro K hK
  simp only [List.mem_cons, List.not_mem_nil, or_false] at hK
  rcases hK with rfl | rfl | rfl | rfl | rfl | rfl | rfl | rfl | rfl
  all_goals first | exact zO _ _ | exact bears_any _ | exact zM _ | exact xX _ _ _ _ (by simp)
 case hX =>
  intro ix K hK hne
  rcases ix with _ | _ | _ | _ | _ | _ | _ | _ | _ | ix
  ·cases hK; first | exact zO _ _ | exact bears_any _ | exact zM _
  ·cases hK; first | exact zO _ _ | exact bears_any _ | exact zM _
  ·cases hK; first | exact zO _ _ | exact bears_any _ | exact zM _
  ·cases hK; first | exact zO _ _ | exact bears_any _ | exact zM _
  ·cases hK; first | exact zO _ _ | exact bears_any _ | exact zM _
  ·cases hK; first | exact zO _ _ | exact bears_any _ | exact zM _
  ·exact absurd rfl hne
  ·cases hK; first | exact zO _ _ | exact bears_any _ | exact zM _
  ·cases hK; first | exact zO _ _ | exact bears_any _ | exact zM _
  simp at hK
 case step =>
  intro L ix o A W hi hI hL hd
  have hin : ix < 9 := qB hi
  have hsz : A.tmps.size = 35 := hI.size
  rcases ix with _ | _ | _ | _ | _ | _ | _ | _ | _ | ix
  ·cases hi; exact zC rfl rfl (wp_load_row _ _ rfl _ (hI.ol 7 rfl) _ _ _ _ hI.g.r7.row zE8 rfl zC6 ⟨_, rfl, rfl, hI.g, zK (by decide) (Rel.refl _ _)⟩)
  ·cases hi; have e0 : A.eval (.tmp 29) = .agg #[.int .i64 out.d, .int .i64 out.n, .bool out.b, .bool out.l, .int .i64 out.x, .bool out.t] := hI.get hd 0 29 rfl (by kernel_rfl)
   refine zC rfl rfl (zS rfl Tryz.func287 (by kernel_rfl) (by kernel_rfl) ?_)
   simp only [List.map_cons, List.map_nil, e0]
   refine (zAy out W).mono ?_
   rintro e w5 ⟨rfl, hb5⟩
   exact ⟨_, rfl, _, rfl, rfl, hI.g.below hb5, zK (by decide) (Rel.below hb5)⟩
  ·cases hi; exact am rfl rfl rfl ⟨_, rfl, (hI.ol 8 rfl), hI.g, zK (by decide) (Rel.refl _ _)⟩
  ·cases hi; have e := hI.ol 7 rfl
   refine zC rfl rfl (qX (v := .pointer (some ⟨b7, 0, none⟩)) ?_ ⟨_, rfl, rfl, hI.g, zK (by decide) (Rel.refl _ _)⟩)
   unfold execOp
   simp only [List.getElem_toArray, List.getElem_cons_zero, List.getElem_cons_succ, e]
   simp [go_sem]
  ·cases hi; have e : A.eval (.tmp 32) = .pointer (some ⟨b7, 0, none⟩) := hI.get hd 3 32 rfl (by kernel_rfl)
   exact zC rfl rfl (zFj (cs' := #[.int .i64 out.d, .int .i64 out.n]) rfl e hI.g.r7 zEb rfl rfl vF ⟨_, rfl, rfl, hI.g, zK (by decide) (Rel.refl _ _)⟩)
  ·cases hi; have e0 : A.eval (.tmp 33) = .agg #[.int .i64 out.d, .int .i64 out.n] := hI.get hd 4 33 rfl (by kernel_rfl)
   refine zC rfl rfl (zS rfl Tryz.func288 (by kernel_rfl) (by kernel_rfl) ?_)
   simp only [List.map_cons, List.map_nil, e0]
   refine (zDh out.d out.n W hod).mono ?_
   rintro e w5 ⟨rfl, hb5⟩
   exact ⟨_, rfl, _, rfl, rfl, hI.g.below hb5, zK (by decide) (Rel.below hb5)⟩
  ·cases hi; have e1 : A.eval (.tmp 30) = .agg #[.int .i64 out.d, .bool out.b, .bool out.l, .int .i64 out.n, .int .i64 out.x, .bool out.t] := hI.get hd 1 30 rfl (by kernel_rfl)
   obtain ⟨oc, hrs, hr⟩ := hI.g.r4
   exact zC rfl rfl (wp_store_row _ _ _ rfl _ _ (hI.ol 4 rfl) e1 _ _ hr.row zU hrs (by simp [Value.oneCell']) ⟨_, rfl, setRow_heap W _ _ _ _ _ hr.row, hI.g.store h74 h4 _ rfl, zAu (Rel.onto (jZ _) rfl)⟩)
  ·cases hi; have e : A.eval (.tmp 31) = .int .i64 s.x := hI.get hd 2 31 rfl (by kernel_rfl); exact zC rfl rfl (qC rfl ⟨_, rfl, e, hI.g, zK (by decide) (Rel.refl _ _)⟩)
  ·cases hi; have e : A.eval (.tmp 34) = .int .i64 (out.d / 128) := hI.get hd 5 34 rfl (by kernel_rfl); exact zC rfl rfl (qC rfl ⟨_, rfl, e, hI.g, zK (by decide) (Rel.refl _ _)⟩)
  omega
 case done =>
  intro A W hI
  have e4 : A.tmps.getD 4 undef = .pointer (some ⟨b4, 0, none⟩) := hI.old 4 (by kernel_rfl)
  have e5 : A.tmps.getD 5 undef = .int .i64 s.x := hI.slot 7 5 rfl rfl
  have e6 : A.tmps.getD 6 undef = .int .i64 (out.d / 128) := hI.slot 8 6 rfl rfl
  have hI6 := hI.eff 6 _ rfl rfl rfl
  have hA := jC A 35 hI.size
  have hg := hI.g
  have hde : A.defers = [] := hI.defers
  rw [hde, show List.range 35 = [0, 1, 2, 3, 4, 5, 6, 7, 8, 9, 10, 11, 12, 13, 14, 15, 16, 17, 18, 19, 20, 21, 22, 23, 24, 25, 26, 27, 28, 29, 30, 31, 32, 33, 34] from rfl] at hA
  simp only [List.map_cons, List.map_nil, e4, e5, e6] at hA
  rw [hA]
  clear hA e4 e5 e6 hI hde
  obtain ⟨vv, hv⟩ := hI6
  have hrow : Row W b4 #[.int .i64 out.d, .bool out.b, .bool out.l, .int .i64 out.n, .int .i64 out.x, .bool out.t] 28 := Row.of hv
  go_wp2
  refine qO rfl rfl hrow qF rfl zU rfl rfl rfl ?_
  exact ⟨rfl, hg.bel⟩
theorem zFz (s : Sr) (upto : Int) (w : World) :
  Calls Tryz.prog 208 #[s.val, .int .i64 upto] w fun e w' => e = .returned (.tuple #[(s.send upto).1.val, .int .i64 (s.send upto).2.1, .int .i64 (s.send upto).2.2]) ∧ Below w.heap.size w w' := by
 show zAl s upto (s.send upto) w
 cases hok : s.ok
 ·rw [show s.send upto = (Sr.nul, -1, 0) by simp [Sr.send, hok]]
  exact zLi s upto w hok
 obtain ⟨hd, hx⟩ := Sr.ok_true hok
 by_cases h0 : s.x = 0
 ·rw [show s.send upto = (s, -1, 0) by simp [Sr.send, hok, h0]]
  obtain ⟨d, b, l, n, x, t⟩ := s
  simp only at h0
  subst h0
  exact zNb d n b l t upto w hok
 by_cases h1 : upto < s.x
 ·rw [show s.send upto = (s, -1, 0) by simp [Sr.send, hok]; omega]
  exact zLj s upto w hok (by simpa using h0) h1
 ·rw [show s.send upto = (⟨s.d, s.b, s.l, s.n, 0, true⟩, s.x, s.d / 128) by
   have : 0 < s.x ∧ s.x ≤ upto := by omega
   simp [Sr.send, hok, this]]
  exact zOw s upto w hok hd (by simpa using h0) h1
def jX (s : Sr) (bit : Int) (r : Sr × Int × Bool) (w : World) : Prop :=
  Calls Tryz.prog 210 #[s.val, .int .i64 bit] w fun e w' => e = .returned (.tuple #[r.1.val, .int .i64 r.2.1, .bool r.2.2]) ∧ Below w.heap.size w w'
set_option maxHeartbeats 2000000 in
theorem zNv (s : Sr) (bit : Int) (w : World) (hok : s.ok = false) : jX s bit (Sr.nul, 0, false) w := by
 unfold jX
 rw [Sr.eta s]
 go_enter Tryz.func210, Tryz.ntmps210
 go_wp2_with (first
  | (go_at_call 87; refine (qG s _).mono ?_; rintro e w1 ⟨rfl, hb⟩; rw [hok]; obtain ⟨r1, r2, hB⟩ := box2 hb; clear hb; have c1 := r1.cell)
  | (go_at_call 165; refine (xK s _).mono ?_; rintro e w3 ⟨rfl, hb3⟩; replace r1 := r1.below hb3; replace r2 := r2.below hb3; replace hB := zD hB hb3; clear hb3; rw [Sr.eta_port])
  | (refine jM rfl rfl rfl rfl (Row.new _ _ _) rfl ?_; intro w2 r4 ho2 hs2; replace r1 := (r1.alloc _).onto ho2 (Nat.ne_of_lt r1.lt); replace r2 := (r2.alloc _).onto ho2 (Nat.ne_of_lt r2.lt); replace hB := zA (hB.alloc hB.size _) ho2 hB.size; have c4 := r4.cell; have c1 := r1.cell; clear ho2 hs2)
  | (refine qY rfl rfl rfl rfl r2 rfl ?_; intro w2 r3 ho2 hs2))
 refine qO rfl rfl r3 qF rfl zU rfl rfl rfl ?_
 exact ⟨rfl, zA hB ho2 (by omega)⟩
set_option maxHeartbeats 2000000 in
theorem zS4 (s : Sr) (bit : Int) (w : World) (hok : s.ok = true) (hbit : inn bit 0 1 = false) : jX s bit (Sr.nul, 0, false) w := by
 unfold jX
 rw [Sr.eta s]
 go_enter Tryz.func210, Tryz.ntmps210
 go_wp2_with (first
  | (go_at_call 87; refine (qG s _).mono ?_; rintro e w1 ⟨rfl, hb⟩; rw [hok]; obtain ⟨r1, r2, hB⟩ := box2 hb; clear hb; have c1 := r1.cell)
  | (go_at_call 158; refine (jG _ _).mono ?_; rintro e w1 ⟨rfl, rfl⟩; rw [hbit])
  | (go_at_call 165; refine (xK s _).mono ?_; rintro e w3 ⟨rfl, hb3⟩; replace r1 := r1.below hb3; replace r2 := r2.below hb3; replace hB := zD hB hb3; clear hb3; rw [Sr.eta_port])
  | (refine jM rfl rfl rfl rfl (Row.new _ _ _) rfl ?_; intro w2 r4 ho2 hs2; replace r1 := (r1.alloc _).onto ho2 (Nat.ne_of_lt r1.lt); replace r2 := (r2.alloc _).onto ho2 (Nat.ne_of_lt r2.lt); replace hB := zA (hB.alloc hB.size _) ho2 hB.size; have c4 := r4.cell; have c1 := r1.cell; clear ho2 hs2)
  | (refine qY rfl rfl rfl rfl r2 rfl ?_; intro w2 r3 ho2 hs2))
 refine qO rfl rfl r3 qF rfl zU rfl rfl rfl ?_
 exact ⟨rfl, zA hB ho2 (by omega)⟩
set_option maxHeartbeats 2000000 in
theorem zP0 (d n x : Int) (l t : Bool) (bit : Int) (w : World) (hok : (Sr.mk d false l n x t).ok = true) (hbit : inn bit 0 1 = true) : jX ⟨d, false, l, n, x, t⟩ bit (⟨d, false, l, n, x, t⟩, 1, false) w := by
 unfold jX
 rw [Sr.eta]
 go_enter Tryz.func210, Tryz.ntmps210
 go_wp2_with (first
  | (go_at_call 87; refine (qG ⟨d, false, l, n, x, t⟩ _).mono ?_; rintro e w1 ⟨rfl, hb⟩; rw [hok]; obtain ⟨r1, r2, hB⟩ := box2 hb; clear hb; have c1 := r1.cell)
  | (go_at_call 158; refine (jG _ _).mono ?_; rintro e w1 ⟨rfl, rfl⟩; rw [hbit])
  | (go_at_call 165; refine (xK ⟨d, false, l, n, x, t⟩ _).mono ?_; rintro e w3 ⟨rfl, hb3⟩; replace r1 := r1.below hb3; replace r2 := r2.below hb3; replace hB := zD hB hb3; clear hb3; rw [Sr.eta_port])
  | (refine jM rfl rfl rfl rfl (Row.new _ _ _) rfl ?_; intro w2 r4 ho2 hs2; replace r1 := (r1.alloc _).onto ho2 (Nat.ne_of_lt r1.lt); replace r2 := (r2.alloc _).onto ho2 (Nat.ne_of_lt r2.lt); replace hB := zA (hB.alloc hB.size _) ho2 hB.size; have c4 := r4.cell; have c1 := r1.cell; clear ho2 hs2)
  | (refine qY rfl rfl rfl rfl r2 rfl ?_; intro w2 r3 ho2 hs2))
 refine qO rfl rfl r3 qF rfl zU rfl rfl rfl ?_
 exact ⟨rfl, zA hB ho2 (by omega)⟩
set_option maxHeartbeats 2000000 in
theorem zNw (d n x : Int) (t : Bool) (bit : Int) (w : World) (hok : (Sr.mk d true true n x t).ok = true) (hbit : inn bit 0 1 = true) : jX ⟨d, true, true, n, x, t⟩ bit (⟨d, true, true, n, x, t⟩, 1, false) w := by
 unfold jX
 rw [Sr.eta]
 go_enter Tryz.func210, Tryz.ntmps210
 go_wp2_with (first
  | (go_at_call 87; refine (qG ⟨d, true, true, n, x, t⟩ _).mono ?_; rintro e w1 ⟨rfl, hb⟩; rw [hok]; obtain ⟨r1, r2, hB⟩ := box2 hb; clear hb; have c1 := r1.cell)
  | (go_at_call 158; refine (jG _ _).mono ?_; rintro e w1 ⟨rfl, rfl⟩; rw [hbit])
  | (go_at_call 165; refine (xK ⟨d, true, true, n, x, t⟩ _).mono ?_; rintro e w3 ⟨rfl, hb3⟩; replace r1 := r1.below hb3; replace r2 := r2.below hb3; replace hB := zD hB hb3; clear hb3; rw [Sr.eta_port])
  | (refine jM rfl rfl rfl rfl (Row.new _ _ _) rfl ?_; intro w2 r4 ho2 hs2; replace r1 := (r1.alloc _).onto ho2 (Nat.ne_of_lt r1.lt); replace r2 := (r2.alloc _).onto ho2 (Nat.ne_of_lt r2.lt); replace hB := zA (hB.alloc hB.size _) ho2 hB.size; have c4 := r4.cell; have c1 := r1.cell; clear ho2 hs2)
  | (refine qY rfl rfl rfl rfl r2 rfl ?_; intro w2 r3 ho2 hs2))
 refine qO rfl rfl r3 qF rfl zU rfl rfl rfl ?_
 exact ⟨rfl, zA hB ho2 (by omega)⟩
set_option maxHeartbeats 2000000 in
theorem zPz (d n x : Int) (t : Bool) (bit : Int) (w : World) (hok : (Sr.mk d true false n x t).ok = true) (hbit : inn bit 0 1 = true) (hd : 0 ≤ d ∧ d ≤ 255) (hb' : 0 ≤ bit ∧ bit ≤ 1) (hn : 1 ≤ n ∧ n ≤ 8) (h0 : decide (n - 1 = 0) = true) : jX ⟨d, true, false, n, x, t⟩ bit (⟨2 * d % 256 + bit, false, false, n - 1, x, t⟩, d / 128, true) w := by
 unfold jX
 rw [Sr.eta]
 generalize ho : (⟨2 * d % 256 + bit, false, false, n - 1, x, t⟩ : Sr) = out
 have hon : decide (out.n = 0) = true := by subst ho; exact h0
 generalize hb4 : w.heap.size + 1 = b4
 have h4 : w.heap.size ≤ b4 := by omega
 go_enter Tryz.func210, Tryz.ntmps210
 go_wp2_with (first
  | (go_at_call 87; refine (qG ⟨d, true, false, n, x, t⟩ _).mono ?_; rintro e w1 ⟨rfl, hb⟩; rw [hok]; obtain ⟨r1, r2, hB⟩ := box2 hb; clear hb; have c1 := r1.cell)
  | (go_at_call 158; refine (jG _ _).mono ?_; rintro e w1 ⟨rfl, rfl⟩; rw [hbit])
  | (go_at_call 165; refine (xK ⟨d, true, false, n, x, t⟩ _).mono ?_; rintro e w3 ⟨rfl, hb3⟩; replace r1 := r1.below hb3; replace r2 := r2.below hb3; replace hB := zD hB hb3; clear hb3; rw [Sr.eta_port])
  | (refine jM rfl rfl rfl rfl (Row.new _ _ _) rfl ?_; intro w2 r4 ho2 hs2; have n5 : w.heap.size + 1 ≠ _ := Nat.ne_of_lt r2.lt; have hB0 := hB.size; replace r2 := (r2.alloc _).onto ho2 (Nat.ne_of_lt r2.lt); replace hB := zA (hB.alloc hB.size _) ho2 hB.size; have c4 := r4.cell; clear ho2 hs2)
  | (go_at_call 288; refine (zDh _ _ _ hd).mono ?_; rintro e w5 ⟨rfl, hb5⟩; replace r2 := r2.below hb5; replace r4 := r4.below hb5; have c4 := r4.cell; replace hB := zD hB hb5; clear hb5)
  | (go_at_call 289; refine (zB3 _ _ _ _ hd hb' hn).mono ?_; rintro e w5 ⟨rfl, hb5⟩; replace r2 := r2.below hb5; replace r4 := r4.below hb5; replace hB := zD hB hb5; clear hb5)
  | (refine zKd rfl rfl rfl rfl r4 vF rfl ?_; intro w6 r6 ho6 hs6; simp only [List.setIfInBounds_toArray, List.set_cons_succ, List.set_cons_zero, Nat.zero_add] at r6; replace r2 := r2.onto ho6 n5; replace hB := zA hB ho6 hB0; have c6 := r6.cell; clear ho6 hs6)
  | (go_at_call 290; refine (zAe _ _ _).mono ?_; rintro e w8 ⟨rfl, hb8⟩; rw [h0]; replace r2 := r2.below hb8; replace r6 := r6.below hb8; replace hB := zD hB hb8; clear hb8)
  | (refine st_flag rfl rfl rfl rfl r6 zEn rfl ?_; intro w7 r7 ho7 hs7; simp only [List.setIfInBounds_toArray, List.set_cons_succ, List.set_cons_zero] at r7; replace r2 := r2.onto ho7 n5; replace hB := zA hB ho7 hB0; clear ho7 hs7))
 have r8 : Row w7 w3.heap.size #[.int .i64 out.d, .int .i64 out.n, .bool out.b, .bool out.l, .int .i64 out.x, .bool out.t] 187 := by subst ho; exact r7
 have h74 : w3.heap.size ≠ b4 := by omega
 have hG : Gp w b4 w3.heap.size out w7 := ⟨r8, ⟨_, rfl, hb4 ▸ r2⟩, hB⟩
 clear r1 r2 r4 r6 r7 r8 hB n5 hB0 hb4 h0 hok ho hbit hb' hn
 generalize w3.heap.size = b7 at *
 refine xZ (by kernel_rfl) (by kernel_rfl) (fun W => Gp w b4 b7 out W)
  (kinds [KIs (.agg #[.int .i64 out.d, .int .i64 out.n, .bool out.b, .bool out.l, .int .i64 out.x, .bool out.t]), KIs (.agg #[.int .i64 out.d, .bool out.b, .bool out.l, .int .i64 out.n, .int .i64 out.x, .bool out.t]), KIs (.int .i64 (d / 128)), KIs (.pointer (some ⟨b7, 0, none⟩)), KIs (.agg #[.int .i64 out.d, .int .i64 out.n]), KIs (.bool true), KRow b4 #[.int .i64 out.d, .bool out.b, .bool out.l, .int .i64 out.n, .int .i64 out.x, .bool out.t] 28, KIs (.int .i64 (d / 128)), KIs (.bool true)])
  (steps 6 (fun k => k = b4) (fun _ => False)) (by kernel_rfl) (vZ ?hY ?hX) hG.drew ?step ?done
 case hY =>
  intro K hK
  simp only [List.mem_cons, List.not_mem_nil, or_false] at hK
  rcases hK with rfl | rfl | rfl | rfl | rfl | rfl | rfl | rfl | rfl
  all_goals first | exact zO _ _ | exact bears_any _ | exact zM _ | exact xX _ _ _ _ (by simp)
 case hX =>
  intro ix K hK hne
  rcases ix with _ | _ | _ | _ | _ | _ | _ | _ | _ | ix
  ·cases hK; first | exact zO _ _ | exact bears_any _ | exact zM _
  ·cases hK; first | exact zO _ _ | exact bears_any _ | exact zM _
  ·cases hK; first | exact zO _ _ | exact bears_any _ | exact zM _
  ·cases hK; first | exact zO _ _ | exact bears_any _ | exact zM _
  ·cases hK; first | exact zO _ _ | exact bears_any _ | exact zM _
  ·cases hK; first | exact zO _ _ | exact bears_any _ | exact zM _
  ·exact absurd rfl hne
  ·cases hK; first | exact zO _ _ | exact bears_any _ | exact zM _
  ·cases hK; first | exact zO _ _ | exact bears_any _ | exact zM _
  simp at hK
 case step =>
  intro L ix o A W hi hI hL hd
  have hin : ix < 9 := qB hi
  have hsz : A.tmps.size = 47 := hI.size
  rcases ix with _ | _ | _ | _ | _ | _ | _ | _ | _ | ix
  ·cases hi; exact zC rfl rfl (wp_load_row _ _ rfl _ (hI.ol 7 rfl) _ _ _ _ hI.g.r7.row zE8 rfl zC6 ⟨_, rfl, rfl, hI.g, zK (by decide) (Rel.refl _ _)⟩)
  ·cases hi; have e0 : A.eval (.tmp 41) = .agg #[.int .i64 out.d, .int .i64 out.n, .bool out.b, .bool out.l, .int .i64 out.x, .bool out.t] := hI.get hd 0 41 rfl (by kernel_rfl)
   refine zC rfl rfl (zS rfl Tryz.func287 (by kernel_rfl) (by kernel_rfl) ?_)
   simp only [List.map_cons, List.map_nil, e0]
   refine (zAy out W).mono ?_
   rintro e w5 ⟨rfl, hb5⟩
   exact ⟨_, rfl, _, rfl, rfl, hI.g.below hb5, zK (by decide) (Rel.below hb5)⟩
  ·cases hi; exact am rfl rfl rfl ⟨_, rfl, (hI.ol 8 rfl), hI.g, zK (by decide) (Rel.refl _ _)⟩
  ·cases hi; have e := hI.ol 7 rfl
   refine zC rfl rfl (qX (v := .pointer (some ⟨b7, 0, none⟩)) ?_ ⟨_, rfl, rfl, hI.g, zK (by decide) (Rel.refl _ _)⟩)
   unfold execOp
   simp only [List.getElem_toArray, List.getElem_cons_zero, List.getElem_cons_succ, e]
   simp [go_sem]
  ·cases hi; have e : A.eval (.tmp 44) = .pointer (some ⟨b7, 0, none⟩) := hI.get hd 3 44 rfl (by kernel_rfl)
   exact zC rfl rfl (zFj (cs' := #[.int .i64 out.d, .int .i64 out.n]) rfl e hI.g.r7 zEb rfl rfl vF ⟨_, rfl, rfl, hI.g, zK (by decide) (Rel.refl _ _)⟩)
  ·cases hi; have e0 : A.eval (.tmp 45) = .agg #[.int .i64 out.d, .int .i64 out.n] := hI.get hd 4 45 rfl (by kernel_rfl)
   refine zC rfl rfl (zS rfl Tryz.func290 (by kernel_rfl) (by kernel_rfl) ?_)
   simp only [List.map_cons, List.map_nil, e0]
   refine (hon ▸ zAe out.d out.n W).mono ?_
   rintro e w5 ⟨rfl, hb5⟩
   exact ⟨_, rfl, _, rfl, rfl, hI.g.below hb5, zK (by decide) (Rel.below hb5)⟩
  ·cases hi; have e1 : A.eval (.tmp 42) = .agg #[.int .i64 out.d, .bool out.b, .bool out.l, .int .i64 out.n, .int .i64 out.x, .bool out.t] := hI.get hd 1 42 rfl (by kernel_rfl)
   obtain ⟨oc, hrs, hr⟩ := hI.g.r4
   exact zC rfl rfl (wp_store_row _ _ _ rfl _ _ (hI.ol 4 rfl) e1 _ _ hr.row zU hrs (by simp [Value.oneCell']) ⟨_, rfl, setRow_heap W _ _ _ _ _ hr.row, hI.g.store h74 h4 _ rfl, zAu (Rel.onto (jZ _) rfl)⟩)
  ·cases hi; have e : A.eval (.tmp 43) = .int .i64 (d / 128) := hI.get hd 2 43 rfl (by kernel_rfl); exact zC rfl rfl (qC rfl ⟨_, rfl, e, hI.g, zK (by decide) (Rel.refl _ _)⟩)
  ·cases hi; have e : A.eval (.tmp 46) = .bool true := hI.get hd 5 46 rfl (by kernel_rfl); exact zC rfl rfl (qC rfl ⟨_, rfl, e, hI.g, zK (by decide) (Rel.refl _ _)⟩)
  omega
 case done =>
  intro A W hI
  have e4 : A.tmps.getD 4 undef = .pointer (some ⟨b4, 0, none⟩) := hI.old 4 (by kernel_rfl)
  have e5 : A.tmps.getD 5 undef = .int .i64 (d / 128) := hI.slot 7 5 rfl rfl
  have e6 : A.tmps.getD 6 undef = .bool true := hI.slot 8 6 rfl rfl
  have hI6 := hI.eff 6 _ rfl rfl rfl
  have hA := jC A 47 hI.size
  have hg := hI.g
  have hde : A.defers = [] := hI.defers
  rw [hde, show List.range 47 = [0, 1, 2, 3, 4, 5, 6, 7, 8, 9, 10, 11, 12, 13, 14, 15, 16, 17, 18, 19, 20, 21, 22, 23, 24, 25, 26, 27, 28, 29, 30, 31, 32, 33, 34, 35, 36, 37, 38, 39, 40, 41, 42, 43, 44, 45, 46] from rfl] at hA
  simp only [List.map_cons, List.map_nil, e4, e5, e6] at hA
  rw [hA]
  clear hA e4 e5 e6 hI hde
  obtain ⟨vv, hv⟩ := hI6
  have hrow : Row W b4 #[.int .i64 out.d, .bool out.b, .bool out.l, .int .i64 out.n, .int .i64 out.x, .bool out.t] 28 := Row.of hv
  go_wp2
  refine qO rfl rfl hrow qF rfl zU rfl rfl rfl ?_
  exact ⟨rfl, hg.bel⟩
set_option maxHeartbeats 2000000 in
theorem zNx (d n x : Int) (t : Bool) (bit : Int) (w : World) (hok : (Sr.mk d true false n x t).ok = true) (hbit : inn bit 0 1 = true) (hd : 0 ≤ d ∧ d ≤ 255) (hb' : 0 ≤ bit ∧ bit ≤ 1) (hn : 1 ≤ n ∧ n ≤ 8) (h0 : decide (n - 1 = 0) = false) : jX ⟨d, true, false, n, x, t⟩ bit (⟨2 * d % 256 + bit, true, false, n - 1, x, t⟩, d / 128, false) w := by
 unfold jX
 rw [Sr.eta]
 generalize ho : (⟨2 * d % 256 + bit, true, false, n - 1, x, t⟩ : Sr) = out
 have hon : decide (out.n = 0) = false := by subst ho; exact h0
 generalize hb4 : w.heap.size + 1 = b4
 have h4 : w.heap.size ≤ b4 := by omega
 go_enter Tryz.func210, Tryz.ntmps210
 go_wp2_with (first
  | (go_at_call 87; refine (qG ⟨d, true, false, n, x, t⟩ _).mono ?_; rintro e w1 ⟨rfl, hb⟩; rw [hok]; obtain ⟨r1, r2, hB⟩ := box2 hb; clear hb; have c1 := r1.cell)
  | (go_at_call 158; refine (jG _ _).mono ?_; rintro e w1 ⟨rfl, rfl⟩; rw [hbit])
  | (go_at_call 165; refine (xK ⟨d, true, false, n, x, t⟩ _).mono ?_; rintro e w3 ⟨rfl, hb3⟩; replace r1 := r1.below hb3; replace r2 := r2.below hb3; replace hB := zD hB hb3; clear hb3; rw [Sr.eta_port])
  | (refine jM rfl rfl rfl rfl (Row.new _ _ _) rfl ?_; intro w2 r4 ho2 hs2; have n5 : w.heap.size + 1 ≠ _ := Nat.ne_of_lt r2.lt; have hB0 := hB.size; replace r2 := (r2.alloc _).onto ho2 (Nat.ne_of_lt r2.lt); replace hB := zA (hB.alloc hB.size _) ho2 hB.size; have c4 := r4.cell; clear ho2 hs2)
  | (go_at_call 288; refine (zDh _ _ _ hd).mono ?_; rintro e w5 ⟨rfl, hb5⟩; replace r2 := r2.below hb5; replace r4 := r4.below hb5; have c4 := r4.cell; replace hB := zD hB hb5; clear hb5)
  | (go_at_call 289; refine (zB3 _ _ _ _ hd hb' hn).mono ?_; rintro e w5 ⟨rfl, hb5⟩; replace r2 := r2.below hb5; replace r4 := r4.below hb5; replace hB := zD hB hb5; clear hb5)
  | (refine zKd rfl rfl rfl rfl r4 vF rfl ?_; intro w6 r6 ho6 hs6; simp only [List.setIfInBounds_toArray, List.set_cons_succ, List.set_cons_zero, Nat.zero_add] at r6; replace r2 := r2.onto ho6 n5; replace hB := zA hB ho6 hB0; have c6 := r6.cell; clear ho6 hs6)
  | (go_at_call 290; refine (zAe _ _ _).mono ?_; rintro e w8 ⟨rfl, hb8⟩; rw [h0]; replace r2 := r2.below hb8; replace r6 := r6.below hb8; replace hB := zD hB hb8; clear hb8)
  | (refine st_flag rfl rfl rfl rfl r6 zEn rfl ?_; intro w7 r7 ho7 hs7; simp only [List.setIfInBounds_toArray, List.set_cons_succ, List.set_cons_zero] at r7; replace r2 := r2.onto ho7 n5; replace hB := zA hB ho7 hB0; clear ho7 hs7))
 have r8 : Row w7 w3.heap.size #[.int .i64 out.d, .int .i64 out.n, .bool out.b, .bool out.l, .int .i64 out.x, .bool out.t] 187 := by subst ho; exact r7
 have h74 : w3.heap.size ≠ b4 := by omega
 have hG : Gp w b4 w3.heap.size out w7 := ⟨r8, ⟨_, rfl, hb4 ▸ r2⟩, hB⟩
 clear r1 r2 r4 r6 r7 r8 hB n5 hB0 hb4 h0 hok ho hbit hb' hn
 generalize w3.heap.size = b7 at *
 refine xZ (by kernel_rfl) (by kernel_rfl) (fun W => Gp w b4 b7 out W)
  (kinds [KIs (.agg #[.int .i64 out.d, .int .i64 out.n, .bool out.b, .bool out.l, .int .i64 out.x, .bool out.t]), KIs (.agg #[.int .i64 out.d, .bool out.b, .bool out.l, .int .i64 out.n, .int .i64 out.x, .bool out.t]), KIs (.int .i64 (d / 128)), KIs (.pointer (some ⟨b7, 0, none⟩)), KIs (.agg #[.int .i64 out.d, .int .i64 out.n]), KIs (.bool false), KRow b4 #[.int .i64 out.d, .bool out.b, .bool out.l, .int .i64 out.n, .int .i64 out.x, .bool out.t] 28, KIs (.int .i64 (d / 128)), KIs (.bool false)])
  (steps 6 (fun k => k = b4) (fun _ => False)) (by kernel_rfl) (vZ ?hY ?hX) hG.drew ?step ?done
 case hY =>
  intro K hK
  simp only [List.mem_cons, List.not_mem_nil, or_false] at hK
  rcases hK with rfl | rfl | rfl | rfl | rfl | rfl | rfl | rfl | rfl
  all_goals first | exact zO _ _ | exact bears_any _ | exact zM _ | exact xX _ _ _ _ (by simp)
 case hX =>
  intro ix K hK hne
  rcases ix with _ | _ | _ | _ | _ | _ | _ | _ | _ | ix
  ·cases hK; first | exact zO _ _ | exact bears_any _ | exact zM _
  ·cases hK; first | exact zO _ _ | exact bears_any _ | exact zM _
  ·cases hK; first | exact zO _ _ | exact bears_any _ | exact zM _
  ·cases hK; first | exact zO _ _ | exact bears_any _ | exact zM _
  ·cases hK; first | exact zO _ _ | exact bears_any _ | exact zM _
  ·cases hK; first | exact zO _ _ | exact bears_any _ | exact zM _
  ·exact absurd rfl hne
  ·cases hK; first | exact zO _ _ | exact bears_any _ | exact zM _
  ·cases hK; first | exact zO _ _ | exact bears_any _ | exact zM _
  simp at hK
 case step =>
  intro L ix o A W hi hI hL hd
  have hin : ix < 9 := qB hi
  have hsz : A.tmps.size = 47 := hI.size
  rcases ix with _ | _ | _ | _ | _ | _ | _ | _ | _ | ix
  ·cases hi; exact zC rfl rfl (wp_load_row _ _ rfl _ (hI.ol 7 rfl) _ _ _ _ hI.g.r7.row zE8 rfl zC6 ⟨_, rfl, rfl, hI.g, zK (by decide) (Rel.refl _ _)⟩)
  ·cases hi; have e0 : A.eval (.tmp 41) = .agg #[.int .i64 out.d, .int .i64 out.n, .bool out.b, .bool out.l, .int .i64 out.x, .bool out.t] := hI.get hd 0 41 rfl (by kernel_rfl)
   refine zC rfl rfl (zS rfl Tryz.func287 (by kernel_rfl) (by kernel_rfl) ?_)
   simp only [List.map_cons, List.map_nil, e0]
   refine (zAy out W).mono ?_
   rintro e w5 ⟨rfl, hb5⟩
   exact ⟨_, rfl, _, rfl, rfl, hI.g.below hb5, zK (by decide) (Rel.below hb5)⟩
  ·cases hi; exact am rfl rfl rfl ⟨_, rfl, (hI.ol 8 rfl), hI.g, zK (by decide) (Rel.refl _ _)⟩
  ·cases hi; have e := hI.ol 7 rfl
   refine zC rfl rfl (qX (v := .pointer (some ⟨b7, 0, none⟩)) ?_ ⟨_, rfl, rfl, hI.g, zK (by decide) (Rel.refl _ _)⟩)
   unfold execOp
   simp only [List.getElem_toArray, List.getElem_cons_zero, List.getElem_cons_succ, e]
   simp [go_sem]
  ·cases hi; have e : A.eval (.tmp 44) = .pointer (some ⟨b7, 0, none⟩) := hI.get hd 3 44 rfl (by kernel_rfl)
   exact zC rfl rfl (zFj (cs' := #[.int .i64 out.d, .int .i64 out.n]) rfl e hI.g.r7 zEb rfl rfl vF ⟨_, rfl, rfl, hI.g, zK (by decide) (Rel.refl _ _)⟩)
  ·cases hi; have e0 : A.eval (.tmp 45) = .agg #[.int .i64 out.d, .int .i64 out.n] := hI.get hd 4 45 rfl (by kernel_rfl)
   refine zC rfl rfl (zS rfl Tryz.func290 (by kernel_rfl) (by kernel_rfl) ?_)
   simp only [List.map_cons, List.map_nil, e0]
   refine (hon ▸ zAe out.d out.n W).mono ?_
   rintro e w5 ⟨rfl, hb5⟩
   exact ⟨_, rfl, _, rfl, rfl, hI.g.below hb5, zK (by decide) (Rel.below hb5)⟩
  ·cases hi; have e1 : A.eval (.tmp 42) = .agg #[.int .i64 out.d, .bool out.b, .bool out.l, .int .i64 out.n, .int .i64 out.x, .bool out.t] := hI.get hd 1 42 rfl (by kernel_rfl)
   obtain ⟨oc, hrs, hr⟩ := hI.g.r4
   exact zC rfl rfl (wp_store_row _ _ _ rfl _ _ (hI.ol 4 rfl) e1 _ _ hr.row zU hrs (by simp [Value.oneCell']) ⟨_, rfl, setRow_heap W _ _ _ _ _ hr.row, hI.g.store h74 h4 _ rfl, zAu (Rel.onto (jZ _) rfl)⟩)
  ·cases hi; have e : A.eval (.tmp 43) = .int .i64 (d / 128) := hI.get hd 2 43 rfl (by kernel_rfl); exact zC rfl rfl (qC rfl ⟨_, rfl, e, hI.g, zK (by decide) (Rel.refl _ _)⟩)
  ·cases hi; have e : A.eval (.tmp 46) = .bool false := hI.get hd 5 46 rfl (by kernel_rfl); exact zC rfl rfl (qC rfl ⟨_, rfl, e, hI.g, zK (by decide) (Rel.refl _ _)⟩)
  omega
 case done =>
  intro A W hI
  have e4 : A.tmps.getD 4 undef = .pointer (some ⟨b4, 0, none⟩) := hI.old 4 (by kernel_rfl)
  have e5 : A.tmps.getD 5 undef = .int .i64 (d / 128) := hI.slot 7 5 rfl rfl
  have e6 : A.tmps.getD 6 undef = .bool false := hI.slot 8 6 rfl rfl
  have hI6 := hI.eff 6 _ rfl rfl rfl
  have hA := jC A 47 hI.size
  have hg := hI.g
  have hde : A.defers = [] := hI.defers
  rw [hde, show List.range 47 = [0, 1, 2, 3, 4, 5, 6, 7, 8, 9, 10, 11, 12, 13, 14, 15, 16, 17, 18, 19, 20, 21, 22, 23, 24, 25, 26, 27, 28, 29, 30, 31, 32, 33, 34, 35, 36, 37, 38, 39, 40, 41, 42, 43, 44, 45, 46] from rfl] at hA
  simp only [List.map_cons, List.map_nil, e4, e5, e6] at hA
  rw [hA]
  clear hA e4 e5 e6 hI hde
  obtain ⟨vv, hv⟩ := hI6
  have hrow : Row W b4 #[.int .i64 out.d, .bool out.b, .bool out.l, .int .i64 out.n, .int .i64 out.x, .bool out.t] 28 := Row.of hv
  go_wp2
  refine qO rfl rfl hrow qF rfl zU rfl rfl rfl ?_
  exact ⟨rfl, hg.bel⟩
theorem zDn (s : Sr) (bit : Int) (w : World) :
  Calls Tryz.prog 210 #[s.val, .int .i64 bit] w fun e w' => e = .returned (.tuple #[(s.beat bit).1.val, .int .i64 (s.beat bit).2.1, .bool (s.beat bit).2.2]) ∧ Below w.heap.size w w' := by
 show jX s bit (s.beat bit) w
 cases hok : s.ok
 ·rw [show s.beat bit = (Sr.nul, 0, false) by simp [Sr.beat, hok]]
  exact zNv s bit w hok
 cases hbit : inn bit 0 1
 ·rw [show s.beat bit = (Sr.nul, 0, false) by simp [Sr.beat, hbit]]
  exact zS4 s bit w hok hbit
 obtain ⟨hd, hx⟩ := Sr.ok_true hok
 have hn := Sr.ok_busy hok
 obtain ⟨d, b, l, n, x, t⟩ := s
 simp only at hd hx hn
 cases b
 ·rw [show (Sr.mk d false l n x t).beat bit = (⟨d, false, l, n, x, t⟩, 1, false) by simp [Sr.beat, hok, hbit]]
  exact zP0 d n x l t bit w hok hbit
 cases l
 ·have hn' := hn rfl
  by_cases h1 : n = 1
  ·subst h1
   rw [show (Sr.mk d true false 1 x t).beat bit = (⟨2 * d % 256 + bit, false, false, 1 - 1, x, t⟩, d / 128, true) by simp [Sr.beat, hok, hbit]]
   exact zPz d 1 x t bit w hok hbit hd (qU hbit) hn' (by simp)
  ·rw [show (Sr.mk d true false n x t).beat bit = (⟨2 * d % 256 + bit, true, false, n - 1, x, t⟩, d / 128, false) by simp [Sr.beat, hok, hbit, h1]]
   exact zNx d n x t bit w hok hbit hd (qU hbit) hn' (by simp; omega)
 ·rw [show (Sr.mk d true true n x t).beat bit = (⟨d, true, true, n, x, t⟩, 1, false) by simp [Sr.beat, hok, hbit]]
  exact zNw d n x t bit w hok hbit
end Go.Proofs.YtamldhflkfbdnaaGreatDoor.Srl
