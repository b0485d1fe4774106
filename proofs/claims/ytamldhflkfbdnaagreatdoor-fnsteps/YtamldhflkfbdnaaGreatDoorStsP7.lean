/-
  What FnSteps leans on: part 7.
-/
import Derived.Deep.LoopGhost
import Derived.Test.YtamldhflkfbdnaaGreatDoorStsP2
import Derived.Test.YtamldhflkfbdnaaGreatDoorStsP4
import Derived.Test.YtamldhflkfbdnaaGreatDoorStsP6
set_option linter.unusedVariables false
set_option linter.unusedSimpArgs false
set_option maxRecDepth 20000
namespace Go.Proofs.YtamldhflkfbdnaaGreatDoor.Mem
open Go.ChangeShapes Go.WideShapes Go.RowKit Base Num Slc Rw Tmr Srl Rom Opl

theorem zKg {f : Int} (h : inn f 0 7 = true) (k : Int) (hk : k = 1 ∨ k = 2 ∨ k = 4) : inn (bits .or .i64 f k) 0 7 = true := by
 have h8 := qU h
 have all : ∀ a : Fin 8, inn (bits .or .i64 (a.val : Int) 1) 0 7 = true ∧ inn (bits .or .i64 (a.val : Int) 2) 0 7 = true ∧ inn (bits .or .i64 (a.val : Int) 4) 0 7 = true := by decide +kernel
 obtain ⟨a, ha⟩ : ∃ a : Fin 8, (a.val : Int) = f := ⟨⟨f.toNat, by omega⟩, by show (f.toNat : Int) = f; omega⟩
 have := all a
 rw [ha] at this
 rcases hk with rfl | rfl | rfl
 ·exact this.1
 ·exact this.2.1
 ·exact this.2.2
theorem zJp (d bit : Int) (hb : inn bit 0 1 = true) : bok (2 * d % 256 + bit) = true := by
 have := qU hb
 have h2 : 0 ≤ 2 * d % 256 := Int.emod_nonneg _ (by omega)
 have h3 : 2 * d % 256 < 256 := Int.emod_lt_of_pos _ (by omega)
 have h4 : (2 * d % 256) % 2 = 0 := by omega
 refine xI.2 ?_
 omega
theorem zNj : Sr.nul.ok = true := by decide
theorem zUm (s : Sr) (bit : Int) : (s.beat bit).1.ok = true := by
 unfold Sr.beat
 by_cases h : (s.ok && inn bit 0 1) = true
 ·rw [if_pos h]
  simp only [Bool.and_eq_true] at h
  obtain ⟨hok, hb⟩ := h
  by_cases h2 : (s.b && !s.l) = true
  ·rw [if_pos h2]
   have hd := zJp s.d bit hb
   obtain ⟨d, b, l, n, x, t⟩ := s
   cases b <;> cases l <;> cases t <;> simp [Sr.ok, clk, inn] at hok h2 ⊢
   all_goals (refine ⟨⟨hd, by omega⟩, ?_⟩)
   all_goals (by_cases hn : n = 1)
   all_goals simp [hn]
   all_goals omega
  ·rw [if_neg h2]; exact hok
 ·rw [if_neg h]; exact zNj
theorem zP5 (s : Sr) (bit q : Int) : (s.answer bit q).1.ok = true := by
 unfold Sr.answer
 by_cases h : (s.ok && inn bit 0 1 && inn q 0 999999968) = true
 ·rw [if_pos h]
  simp only [Bool.and_eq_true] at h
  obtain ⟨⟨hok, hb⟩, hq⟩ := h
  have hq' := qU hq
  by_cases h2 : s.t = true
  ·rw [if_pos h2]
   have hd := zJp s.d bit hb
   obtain ⟨d, b, l, n, x, t⟩ := s
   by_cases hn : n = 1
   ·subst hn
    rw [if_pos rfl]
    cases b <;> cases l <;> cases t <;> simp [Sr.ok, clk, inn] at hok h2 ⊢
    all_goals (refine ⟨⟨hd, by omega⟩, by omega⟩)
   ·rw [if_neg (by simpa using hn)]
    cases b <;> cases l <;> cases t <;> simp [Sr.ok, clk, inn] at hok h2 ⊢
    all_goals (refine ⟨⟨hd, by omega⟩, by omega⟩)
  ·rw [if_neg h2]; exact hok
 ·rw [if_neg h]; exact zNj
theorem zTq (s : Sr) (upto : Int) : (s.send upto).1.ok = true := by
 unfold Sr.send
 by_cases hok : s.ok = true
 ·rw [if_pos hok]
  by_cases h2 : 0 < s.x ∧ s.x ≤ upto
  ·rw [if_pos h2]
   obtain ⟨d, b, l, n, x, t⟩ := s
   cases b <;> cases l <;> cases t <;> simp [Sr.ok, clk, inn, bok] at hok h2 ⊢
   all_goals omega
  ·rw [if_neg h2]; exact hok
 ·rw [if_neg hok]; exact zNj

theorem zHx {m : Mc} (h : m.ok = true) {p : Sr} (hp : p.ok = true) : ({ m with p := p } : Mc).ok = true := okm.2 { okm.1 h with p := hp }
theorem zSh {m : Mc} (h : m.ok = true) (k : Int) (hk : k = 1 ∨ k = 2 ∨ k = 4) : ({ m with fl := bits .or .i64 m.fl k } : Mc).ok = true := okm.2 { okm.1 h with fl := zKg (okm.1 h).fl k hk }
theorem zHl {s : St} (h : s.m.ok = true) (q : Int) : (s.through q).m.ok = true := zSh h 2 (.inr (.inl rfl))
structure Kpt (m : Mc) (s : St) : Prop where
 ok : s.m.ok = true
 k : s.m.k = m.k
 t : s.m.t = m.t
theorem Kpt.arrive {m : Mc} {s : St} (h : Kpt m s) {x : M3} (hx : x.ok = true) : Kpt m (s.arrive x) := by
 unfold St.arrive
 by_cases h1 : x.k = 1
 ·rw [if_pos h1]
  have hp := zHx h.ok (zUm s.m.p x.v)
  split
  ·exact ⟨zHl (s := (s.port (s.m.p.beat x.v).1).sends ⟨x.t + 8, 2, (s.m.p.beat x.v).2.1⟩) hp _, h.k, h.t⟩
  ·exact ⟨hp, h.k, h.t⟩
 rw [if_neg h1]
 by_cases h2 : x.k = 2
 ·rw [if_pos h2]
  have hp := zHx h.ok (zP5 s.m.p x.v x.t)
  split
  ·exact ⟨zHl (s := s.port (s.m.p.answer x.v x.t).1) hp _, h.k, h.t⟩
  ·exact ⟨hp, h.k, h.t⟩
 rw [if_neg h2]
 by_cases h3 : x.k = 3
 ·rw [if_pos h3]
  refine ⟨?_, h.k, h.t⟩
  have hb : bok x.v = true := by
   simp only [M3.ok, Bool.and_eq_true] at hx
   have := hx.2
   rwa [if_neg (by omega), if_pos h3] at this
  have hk := okm.1 h.ok
  exact okm.2 { hk with fl := zKg hk.fl 4 (.inr (.inr rfl)), ky := hb }
 ·rw [if_neg h3]; exact h
theorem Kpt.beats {m : Mc} {s : St} (h : Kpt m s) (fin : Int) : Kpt m (s.beats fin) := ⟨zHx h.ok (zTq s.m.p fin), h.k, h.t⟩
def zEw (fin : Int) (x : M3) : Prop := x.t ≤ fin + 8 ∧ x.k ≠ 3
theorem zS8 {s : St} {x : M3} {fin : Int} (h : ∀ y ∈ s.o, zEw fin y) (hx : x.t ≤ fin) : ∀ y ∈ (s.arrive x).o, zEw fin y := by
 have key : ∀ y ∈ s.o ++ [(⟨x.t + 8, 2, (s.m.p.beat x.v).2.1⟩ : M3)], zEw fin y := fun y hy => by
  rcases List.mem_append.1 hy with hy | hy
  ·exact h y hy
  ·rw [List.mem_singleton] at hy
   subst hy
   exact ⟨by show x.t + 8 ≤ fin + 8; omega, by show (2 : Int) ≠ 3; omega⟩
 unfold St.arrive
 by_cases h1 : x.k = 1
 ·rw [if_pos h1]
  split <;> exact key
 rw [if_neg h1]
 by_cases h2 : x.k = 2
 ·rw [if_pos h2]
  split <;> exact h
 rw [if_neg h2]
 split <;> exact h
theorem zTr (s : Sr) (fin : Int) (h0 : 0 ≤ fin) : (s.send fin).2.1 ≤ fin := by
 unfold Sr.send
 split
 ·split
  ·rename_i h; exact h.2
  ·show (-1 : Int) ≤ fin; omega
 ·show (-1 : Int) ≤ fin; omega
theorem zUl {s : St} {fin : Int} (h0 : 0 ≤ fin) (h : ∀ y ∈ s.o, zEw fin y) : ∀ y ∈ (s.beats fin).o, zEw fin y := fun y hy => by
 have hy' : y ∈ s.o ++ [(⟨(s.m.p.send fin).2.1 + 8, 1, (s.m.p.send fin).2.2⟩ : M3)] := hy
 rcases List.mem_append.1 hy' with hy | hy
 ·exact h y hy
 ·rw [List.mem_singleton] at hy
  subst hy
  have := zTr s.m.p fin h0
  exact ⟨by show (s.m.p.send fin).2.1 + 8 ≤ fin + 8; omega, by show (1 : Int) ≠ 3; omega⟩
theorem zIx {s : St} (x : M3) : (s.arrive x).u = s.u := by
 unfold St.arrive
 repeat' split
 all_goals rfl
theorem zFm {l : List M3} (h : qH l = true) {i : Nat} (hi : i < l.length) : (M3.at' l i).ok = true := by
 simp only [qH, Bool.and_eq_true, zCh, List.all_eq_true, List.mem_range] at h
 have := h.1 i hi
 simp only [fits, Bool.and_eq_true] at this
 exact this.1
structure Amid (m : Mc) (l : List M3) (fin : Int) (s : St) : Prop where
 k : Kpt m s
 o : ∀ y ∈ s.o, zEw fin y
 u0 : 0 ≤ s.u
 u1 : s.u ≤ l.length
theorem Amid.taken {m : Mc} {l : List M3} {fin : Int} {s : St} (h : Amid m l fin s) (hl : qH l = true) (ht : s.takes l fin = true) : Amid m l fin (s.taken l) := by
 simp only [St.takes, Bool.and_eq_true, decide_eq_true_eq] at ht
 have h1 := ht.1.1
 have h0 := h.u0
 have hlt : s.u.toNat < l.length := by omega
 have hk := h.k.arrive (zFm hl hlt)
 exact ⟨⟨hk.ok, hk.k, hk.t⟩, zS8 h.o ht.1.2, by show 0 ≤ s.u + 1; omega, by show s.u + 1 ≤ l.length; omega⟩
theorem Amid.beats {m : Mc} {l : List M3} {fin : Int} {s : St} (h : Amid m l fin s) (h0 : 0 ≤ fin) : Amid m l fin (s.beats fin) :=
 ⟨h.k.beats fin, zUl h0 h.o, h.u0, h.u1⟩
theorem zNu {m : Mc} {l : List M3} {fin : Int} (hl : qH l = true) (hf : 0 ≤ fin) : ∀ (n : Nat) (s : St), Amid m l fin s → s.meas l ≤ n →
  Amid m l fin (s.events l fin n) ∧ (s.events l fin n).takes l fin = false ∧ (s.events l fin n).idle fin = true := by
 intro n
 induction n with
 | zero =>
  intro s h hn
  have e : s.events l fin 0 = s := rfl
  rw [e]
  refine ⟨h, ?_, ?_⟩
  ·cases ht : s.takes l fin with
   | false => rfl
   | true => have := zBj ht h.u0; omega
  ·cases hi : s.idle fin with
   | true => rfl
   | false => have := vC (l := l) hi; omega
 | succ n ih =>
  intro s h hn
  cases ht : s.takes l fin with
  | true =>
   obtain ⟨e, hm⟩ := jY ht h.u0 hn
   rw [e]
   exact ih _ (h.taken hl ht) hm
  | false =>
   cases hi : s.idle fin with
   | true => rw [zA0 ht hi]; exact ⟨h, ht, hi⟩
   | false =>
    obtain ⟨e, hm⟩ := zBx ht hi hn
    rw [e]
    exact ih _ (h.beats hf) hm
theorem zO7 {k : Int} (h : (line k).2.1 ≠ 0) : 1 ≤ (line k).2.2 ∧ (line k).2.2 ≤ 4 := by
 unfold line at h ⊢
 by_cases hk : 0 ≤ k ∧ k < 31
 ·rw [if_pos hk] at h ⊢
  have all : ∀ a : Fin 31, 1 ≤ (ops.getD a.val ([], 0, 0)).2.2 ∧ (ops.getD a.val ([], 0, 0)).2.2 ≤ 4 := by decide +kernel
  exact all ⟨k.toNat, by omega⟩
 ·rw [if_neg hk] at h; exact absurd rfl h
theorem zIl (m : Mc) : 1 ≤ m.exec.2.1 ∧ m.exec.2.1 ≤ 4 := by
 unfold Mc.exec
 split
 ·exact ⟨by show (1 : Int) ≤ 1; omega, by show (1 : Int) ≤ 4; omega⟩
 split
 ·exact ⟨by show (1 : Int) ≤ 1; omega, by show (1 : Int) ≤ 4; omega⟩
 ·rename_i h; exact zO7 h
theorem zJj (m : Mc) : 1 ≤ m.turn.2.1 ∧ m.turn.2.1 ≤ 5 := by
 unfold Mc.turn
 split
 ·have := zIl m.call.1
  exact ⟨this.1, by show m.call.1.exec.2.1 ≤ 5; omega⟩
 ·exact ⟨by show (1 : Int) ≤ 5; omega, by show (5 : Int) ≤ 5; omega⟩
theorem zJi {m : Mc} (h : m.ok = true) : Like m m.turn.1 := by
 have h1 := zGg h
 unfold Mc.turn
 split
 ·have h2 := zPp h1.1
  exact ⟨h2.1, h2.2.1.trans h1.2.1, h2.2.2.trans h1.2.2⟩
 ·exact h1
structure zTk (m : Mc) (l : List M3) : Prop where
 ok : (m.stepped l).m.ok = true
 k : (m.stepped l).m.k = m.fin
 c : (m.stepped l).m.t.c = m.fin
 o : ∀ y ∈ (m.stepped l).o, zEw m.fin y
 u0 : 0 ≤ (m.stepped l).u
 u1 : (m.stepped l).u ≤ l.length
 nx : (m.stepped l).u < l.length → m.fin < (M3.at' l (m.stepped l).u.toNat).t
 lo : m.k < m.fin
 hi : m.fin ≤ m.k + 5
theorem zB2 {m : Mc} {l : List M3} (h : m.ok = true) (hl : qH l = true) (hf : m.fin ≤ 999999900) : zTk m l := by
 have hc := zJj m
 have hL := zJi h
 have hk0 : m.k = m.t.c := (okm.1 h).k
 have htc := Tm.ok_true (okm.1 h).t
 have h0 : 0 ≤ m.fin := by unfold Mc.fin; omega
 have hA : Amid m.turn.1 l m.fin (St.first m) := ⟨⟨hL.1, rfl, rfl⟩, (fun y hy => by cases hy), Int.le_refl _, (by show (0 : Int) ≤ l.length; omega)⟩
 obtain ⟨hA', ht, hi⟩ := zNu hl h0 ((St.first m).meas l) (St.first m) hA (Nat.le_refl _)
 obtain ⟨s, hs⟩ : ∃ s, (St.first m).events l m.fin ((St.first m).meas l) = s := ⟨_, rfl⟩
 rw [hs] at hA' ht hi
 have e : m.stepped l = s.closed m.turn.2.1 m.fin := by unfold Mc.stepped St.evs; rw [hs]
 have hsk : s.m.t.c = m.k := by rw [hA'.k.t, hL.2.2, hk0]
 have hfe : m.fin = m.k + m.turn.2.1 := rfl
 have hmay : s.m.t.may m.turn.2.1 = true := Tm.may_mk (okm.1 hA'.k.ok).t (by omega) (by omega) (by omega)
 have hcc : (s.m.t.after m.turn.2.1).1.c = m.fin := by rw [Tm.after_yes hmay]; show s.m.t.c + m.turn.2.1 = m.fin; omega
 have hso := okm.1 hA'.k.ok
 rw [show zTk m l = zTk m l from rfl]
 refine ⟨?_, ?_, ?_, ?_, ?_, ?_, ?_, by omega, by omega⟩
 all_goals rw [e]
 ·unfold St.closed
  refine okm.2 { hso with t := Tm.after_ok hmay, k := hcc.symm, fl := ?_ }
  show inn (if 0 < (s.m.t.after m.turn.2.1).2 then bits .or .i64 s.m.fl 1 else s.m.fl) 0 7 = true
  split
  ·exact zKg hso.fl 1 (.inl rfl)
  ·exact hso.fl
 ·rfl
 ·exact hcc
 ·exact hA'.o
 ·exact hA'.u0
 ·exact hA'.u1
 ·intro hu
  have hu' : s.u < l.length := hu
  show m.fin < (M3.at' l s.u.toNat).t
  simp only [St.takes, Bool.and_eq_false_iff, decide_eq_false_iff_not] at ht
  simp only [St.idle, Bool.or_eq_true, beq_iff_eq, decide_eq_true_eq] at hi
  rcases ht with (ht | ht) | ht
  ·omega
  ·omega
  ·exfalso
   simp only [Bool.or_eq_false_iff, beq_eq_false_iff_ne, ne_eq, decide_eq_false_iff_not] at ht
   rcases hi with hi | hi
   ·exact ht.1.1 hi
   ·exact ht.1.2 hi
theorem zBe {m : Mc} {l : List M3} (h : m.ok = true) (hl : qH l = true) (hf : m.fin ≤ 999999900) : stepOf m l = (m.stepped l, true) := by
 unfold stepOf
 rw [if_pos (by simp [h, hl, hf, (zB2 h hl hf).ok])]
theorem vJ {m : Mc} {l : List M3} (h : ¬ (m.ok = true ∧ qH l = true ∧ m.fin ≤ 999999900)) : stepOf m l = (St.nul, false) := by
 unfold stepOf
 rw [if_neg]
 simp only [Bool.and_eq_true, decide_eq_true_eq]
 rintro ⟨⟨⟨h1, h2⟩, h3⟩, _⟩
 exact h ⟨h1, h2, h3⟩
end Go.Proofs.YtamldhflkfbdnaaGreatDoor.Mem
namespace Go.Proofs.YtamldhflkfbdnaaGreatDoor.Reg
open Go.RowKit Base

def zQg (ops : Array Oper) (s t : Nat) : Bool := (List.range ops.size).all fun i => i == t || (wider ops ops.size [s]).contains i
def zD6 (ops : Array Oper) (j i : Nat) : Bool := match ops[j]? with
 | some o => (deps o).contains i
 | none => false
def twoT (ops : Array Oper) (s1 s2 k1 : Nat) (E1 : Value → World → Prop) (E2 : World → Prop) (vals : List Value) (j : Nat) (f : Nat → Value) (W : World) : Prop :=
 if j = s1 then E1 (f k1) W else if j = s2 then E2 W else vD ops vals j f W
def twoR (s1 s2 k1 : Nat) (E1 : Value → World → Prop) (i : Nat) (f : Nat → Value) (W W' : World) : Prop :=
 if i = s1 then True else if i = s2 then E1 (f k1) W' else Below W.heap.size W W'
section
variable {P : Program} {ops : Array Oper} {Q : Exit → Act → World → Prop} {s1 s2 k1 : Nat} {a0 a : Act} {L : Nat → Bool} {w w' : World} {i : Nat} {o : Oper} {v : Value} {vals : List Value} {E1 : Value → World → Prop} {E2 : World → Prop}
theorem zRd {n : Nat} (hds : zCi ops n = true) (hk1 : (ops[s1]?).bind (·.dst) = some k1) (hdep : zD6 ops s2 s1 = true) (hne : s1 ≠ s2)
  (hE1 : ∀ v W W', E1 v W → Below W.heap.size W W' → E1 v W') (hE2 : ∀ W W', E2 W → Below W.heap.size W W' → E2 W') : zCn ops (twoT ops s1 s2 k1 E1 E2 vals) (twoR s1 s2 k1 E1) := by
 intro L i j oi oj f f' w w' hi hj hLi hLj hd hf hT hR
 unfold twoT at hT ⊢
 unfold twoR at hR
 by_cases j1 : j = s1
 ·rw [if_pos j1] at hT ⊢
  have i1 : i ≠ s1 := fun e => by rw [e, ← j1, hLj] at hLi; cases hLi
  rw [if_neg i1] at hR
  by_cases i2 : i = s2
  ·rw [if_pos i2] at hR; exact hR
  ·rw [if_neg i2] at hR
   have hk : f' k1 = f k1 := hf k1 (fun e => by
    refine i1 (zEo hds (by rw [hi]; exact e) hk1))
   rw [hk]; exact hE1 _ _ _ hT hR
 ·rw [if_neg j1] at hT ⊢
  by_cases j2 : j = s2
  ·rw [if_pos j2] at hT ⊢
   have i1 : i ≠ s1 := fun e => by
    have h1 := hdep
    unfold zD6 at h1
    rw [← j2, hj] at h1
    have := hd s1 (List.contains_iff_mem.1 h1)
    rw [← e, hLi] at this; cases this
   have i2 : i ≠ s2 := fun e => by rw [e, ← j2, hLj] at hLi; cases hLi
   rw [if_neg i1, if_neg i2] at hR
   exact hE2 _ _ hT hR
  ·rw [if_neg j2] at hT ⊢
   intro k hk
   rw [hf k (fun e => ?_)]
   ·exact hT k hk
   ·have : i = j := zEo hds (by rw [hi]; exact e) hk
    rw [this, hLj] at hLi; cases hLi
theorem InvS.val2 {G : Bool → World → Prop} (h : InvS ops s1 G (twoT ops s1 s2 k1 E1 E2 vals) a0 L a w) (hr : ∀ d ∈ deps o, L d = true) (j k : Nat) {oj : Oper} (hj : ops[j]? = some oj) (hk : oj.dst = some k) (hd : (deps o).contains j = true) (h1 : j ≠ s1) (h2 : j ≠ s2) : a.eval (.tmp k) = vals.getD j undef := by
 have := h.get hr j hj hd
 unfold twoT at this
 rw [if_neg h1, if_neg h2] at this
 exact this k (by rw [hj]; exact hk)
theorem zEx {id : Nat} (hm : P.follows .mixedOrders = true) (hac : acyc ops = true) (s1 s2 k1 : Nat) (hs1 : s1 < ops.size) (hk1 : (ops[s1]?).bind (·.dst) = some k1) (hn2 : (ops[s2]?).bind (·.dst) = none) (hall : zQg ops s1 s2 = true) (hdep : zD6 ops s2 s1 = true) (hne : s1 ≠ s2) (hds : zCi ops a0.tmps.size = true)
  (G : World → Prop) (E1 : Value → World → Prop) (E2 : World → Prop) (hE1 : ∀ v W W', E1 v W → Below W.heap.size W W' → E1 v W') (hE2 : ∀ W W', E2 W → Below W.heap.size W W' → E2 W') (vals : List Value) (hG : G w.drew)
  (step : ∀ (L : Nat → Bool) (i : Nat) (o : Oper) (a : Act) (w : World), i ≠ s1 → i ≠ s2 → ops[i]? = some o → InvS ops s1 (ge G fun _ => True) (twoT ops s1 s2 k1 E1 E2 vals) a0 L a w → G w → (∀ d ∈ deps o, L d = true) →
   wpOp P ops Q i (fun a' w' => ∃ v, a' = a.put o.dst v ∧ v = vals.getD i undef ∧ G w' ∧ Below w.heap.size w w') a w)
  (first : ∀ (L : Nat → Bool) (o : Oper) (a : Act) (w : World), ops[s1]? = some o → InvS ops s1 (ge G fun _ => True) (twoT ops s1 s2 k1 E1 E2 vals) a0 L a w → G w → (∀ d ∈ deps o, L d = true) →
   wpOp P ops Q s1 (fun a' w' => ∃ v, a' = a.put o.dst v ∧ E1 v w') a w)
  (second : ∀ (L : Nat → Bool) (o : Oper) (a : Act) (w : World), ops[s2]? = some o → InvS ops s1 (ge G fun _ => True) (twoT ops s1 s2 k1 E1 E2 vals) a0 L a w → E1 (a.tmps.getD k1 undef) w → (∀ d ∈ deps o, L d = true) →
   wpOp P ops Q s2 (fun a' w' => a' = a.put o.dst undef ∧ E1 (a.tmps.getD k1 undef) w' ∧ E2 w') a w)
  (done : ∀ a w, InvS ops s1 (ge G fun _ => True) (twoT ops s1 s2 k1 E1 E2 vals) a0 (fun _ => true) a w → E1 (a.tmps.getD k1 undef) w → E2 w → Q .normal a w)
  (h2s : s2 < ops.size) : (Code.region id ops true).wp P Q a0 w := by
 refine zCt hm hac s1 hs1 (ge G fun _ => True) (twoT ops s1 s2 k1 E1 E2 vals) (twoR s1 s2 k1 E1) (zRd hds hk1 hdep hne hE1 hE2) (by simpa [ge] using hG) ?_ ?_
 ·intro L i o a w hi hI hL hd
  have hil : i < ops.size := (Array.getElem?_eq_some_iff.1 hi).1
  by_cases i2 : i = s2
  ·subst i2
   have hd1 : L s1 = true := hd s1 (by
    have h1 := hdep
    unfold zD6 at h1
    rw [hi] at h1
    exact List.contains_iff_mem.1 h1)
   obtain ⟨o1, ho1⟩ : ∃ o1, ops[s1]? = some o1 := ⟨_, Array.getElem?_eq_getElem hs1⟩
   have hT := hI.told s1 o1 ho1 hd1
   unfold twoT at hT
   rw [if_pos rfl] at hT
   have hnd : o.dst = none := by rw [hi] at hn2; exact hn2
   refine wpOp_mono ?_ (second L o a w hi hI hT hd)
   rintro a' w' ⟨rfl, he1, he2⟩
   refine ⟨undef, rfl, ?_, by simp [ge, hd1], ?_⟩
   ·unfold twoT
    rw [if_neg (Ne.symm hne), if_pos rfl]; exact he2
   ·unfold twoR
    rw [if_neg (Ne.symm hne), if_pos rfl, hnd]; exact he1
  ·have hLs : L s1 = false := by
    cases hq : L s1 with
    | false => rfl
    | true =>
     have h1 := List.all_eq_true.1 hall i (List.mem_range.2 hil)
     rw [Bool.or_eq_true] at h1
     rcases h1 with h1 | h1
     ·exact absurd (by simpa using h1) i2
     ·have := zA2 (L := L) hI.closed ops.size [s1] (fun j hj => by simp at hj; rw [hj]; exact hq) i (List.contains_iff_mem.1 h1)
      rw [this] at hL; cases hL
   have hg : G w := by have := hI.g; simpa [ge, hLs] using this
   by_cases i1 : i = s1
   ·subst i1
    refine wpOp_mono ?_ (first L o a w hi hI hg hd)
    rintro a' w' ⟨v, rfl, he⟩
    refine ⟨v, rfl, ?_, by simp [ge], ?_⟩
    ·unfold twoT
     rw [if_pos rfl]
     have hk' : o.dst = some k1 := by rw [hi] at hk1; exact hk1
     rw [hk']
     show E1 ((a.put (some k1) v).tmps.getD k1 undef) w'
     rw [zG _ _ _ (by rw [hI.size]; exact zE3 hds (i := i) (by rw [hi]; exact hk'))]
     exact he
    ·unfold twoR
     rw [if_pos rfl]; trivial
   ·refine wpOp_mono ?_ (step L i o a w i1 i2 hi hI hg hd)
    rintro a' w' ⟨v, rfl, hv, he, hb⟩
    refine ⟨v, rfl, ?_, by simpa [ge, hLs, Ne.symm i1] using he, ?_⟩
    ·unfold twoT
     rw [if_neg i1, if_neg i2]
     intro k hk
     rw [hi] at hk
     have hk' : o.dst = some k := hk
     rw [hk']
     show (a.put (some k) v).tmps.getD k undef = _
     rw [zG _ _ _ (by rw [hI.size]; exact zE3 hds (i := i) (by rw [hi]; exact hk')), hv]
    ·unfold twoR
     rw [if_neg i1, if_neg i2]; exact hb
 ·intro a w hI
  obtain ⟨o1, ho1⟩ : ∃ o1, ops[s1]? = some o1 := ⟨_, Array.getElem?_eq_getElem hs1⟩
  obtain ⟨o2, ho2⟩ : ∃ o2, ops[s2]? = some o2 := ⟨_, Array.getElem?_eq_getElem h2s⟩
  have hT1 := hI.told s1 o1 ho1 rfl
  have hT2 := hI.told s2 o2 ho2 rfl
  unfold twoT at hT1 hT2
  rw [if_pos rfl] at hT1
  rw [if_neg (Ne.symm hne), if_pos rfl] at hT2
  exact done a w hI hT1 hT2
end
theorem InvS.vl2 {ops : Array Oper} {s1 s2 k1 : Nat} {a0 a : Act} {L : Nat → Bool} {w : World} {o : Oper} {vals : List Value} {E1 : Value → World → Prop} {E2 : World → Prop} {G : Bool → World → Prop} (h : InvS ops s1 G (twoT ops s1 s2 k1 E1 E2 vals) a0 L a w) (hr : ∀ d ∈ deps o, L d = true) (j : Nat) {k : Nat} {v : Value} (hv : zOb ops o vals s1 s2 j = some (k, v)) : a.eval (.tmp k) = v := by
 obtain ⟨n1, n2, hv⟩ := zGn hv
 obtain ⟨h1, h2, oj, h3, h4⟩ := zEz hv
 rw [h.val2 hr j k h3 h4 h1 n1 n2, h2]
end Go.Proofs.YtamldhflkfbdnaaGreatDoor.Reg
namespace Go.Proofs.YtamldhflkfbdnaaGreatDoor.Mem
open Go.ChangeShapes Go.WideShapes Go.RowKit Base Num Slc Slf Rw Tmr Srl Rom Opl Reg

structure Lw (w : World) (base g gz : Nat) (x y vo ve : Value) (s : St) (W : World) : Prop where
 row : SRow W g x y vo ve s
 z : SRow W gz zY zY zY zY St.nul
 so : So base W x y vo ve s
 mild : Mild base w W
theorem Lw.below {w W W' : World} {base g gz : Nat} {x y vo ve : Value} {s : St} (h : Lw w base g gz x y vo ve s W) (hb : Below W.heap.size W W') : Lw w base g gz x y vo ve s W' := ⟨h.row.below hb, h.z.below hb, h.so.below hb, h.mild.trans (Mild.of hb)⟩
theorem Lw.drew {w W : World} {base g gz : Nat} {x y vo ve : Value} {s : St} (h : Lw w base g gz x y vo ve s W) : Lw w base g gz x y vo ve s W.drew := h.below (xC (n := 1) rfl)
def LE1 (w : World) (base g gz : Nat) (x y : Value) (s : St) (v : Value) (W : World) : Prop :=
 ∃ vo ve, v = s.val x y vo ve ∧ So base W x y vo ve s ∧ SRow W gz zY zY zY zY St.nul ∧ Mild base w W ∧ ∃ x0 y0 o0 e0 s0, SRow W g x0 y0 o0 e0 s0
def LE2 (w : World) (base g gz : Nat) (x y : Value) (s : St) (W : World) : Prop := ∃ vo ve, Lw w base g gz x y vo ve s W
theorem LE1.below {w : World} {base g gz : Nat} {x y : Value} {s : St} {v : Value} {W W' : World} (h : LE1 w base g gz x y s v W) (hb : Below W.heap.size W W') : LE1 w base g gz x y s v W' := by
 obtain ⟨vo, ve, e, h1, h2, h3, x0, y0, o0, e0, s0, h4⟩ := h
 exact ⟨vo, ve, e, h1.below hb, h2.below hb, h3.trans (Mild.of hb), x0, y0, o0, e0, s0, h4.below hb⟩
theorem LE2.below {w : World} {base g gz : Nat} {x y : Value} {s : St} {W W' : World} (h : LE2 w base g gz x y s W) (hb : Below W.heap.size W W') : LE2 w base g gz x y s W' := by
 obtain ⟨vo, ve, h⟩ := h
 exact ⟨vo, ve, h.below hb⟩
theorem zFa (s : St) (q : Int) : (s.through q).o = s.o ∧ (s.through q).e.length = s.e.length + 1 := ⟨rfl, by show (s.e ++ [_]).length = _; simp⟩
theorem zEa (s : St) (m : M3) : (s.arrive m).o.length ≤ s.o.length + 1 ∧ (s.arrive m).e.length ≤ s.e.length + 1 := by
 have sp : ∀ p : Sr, (s.port p).o = s.o ∧ (s.port p).e = s.e := fun p => ⟨rfl, rfl⟩
 have ss : ∀ (p : Sr) (n : M3), ((s.port p).sends n).o.length = s.o.length + 1 ∧ ((s.port p).sends n).e = s.e := fun p n => ⟨by show (s.o ++ [n]).length = _; simp, rfl⟩
 unfold St.arrive
 split
 ·split
  ·obtain ⟨h1, h2⟩ := zFa ((s.port (s.m.p.beat m.v).1).sends ⟨m.t + 8, 2, (s.m.p.beat m.v).2.1⟩) m.t
   obtain ⟨h3, h4⟩ := ss (s.m.p.beat m.v).1 ⟨m.t + 8, 2, (s.m.p.beat m.v).2.1⟩
   rw [h1, h2, h3, h4]; omega
  ·obtain ⟨h3, h4⟩ := ss (s.m.p.beat m.v).1 ⟨m.t + 8, 2, (s.m.p.beat m.v).2.1⟩
   rw [h3, h4]; omega
 split
 ·split
  ·obtain ⟨h1, h2⟩ := zFa (s.port (s.m.p.answer m.v m.t).1) m.t
   rw [h1, h2]
   show s.o.length ≤ _ ∧ s.e.length + 1 ≤ _
   omega
  ·show s.o.length ≤ _ ∧ s.e.length ≤ _
   omega
 split
 ·show s.o.length ≤ _ ∧ s.e.length ≤ _
  omega
 ·omega
theorem zCq (p : Sr) (fin : Int) : -1 ≤ (p.send fin).2.1 ∧ (p.send fin).2.1 ≤ 1000000000 := by
 unfold Sr.send
 split
 ·rename_i hok
  simp only [Sr.ok, Bool.and_eq_true, clk] at hok
  have := qU hok.1.1.1.2
  split
  ·show -1 ≤ p.x ∧ p.x ≤ 1000000000
   omega
  ·show (-1 : Int) ≤ -1 ∧ (-1 : Int) ≤ 1000000000
   omega
 ·show (-1 : Int) ≤ -1 ∧ (-1 : Int) ≤ 1000000000
  omega
set_option maxHeartbeats 4000000 in
theorem vN (v vi x y vo ve : Value) (s : St) (l : List M3) (fin : Int) (w : World) (base : Nat) (hv : v = s.val x y vo ve) (h : So base w x y vo ve s) (hs : SlF fM w vi l) (hvi : 0 < l.length → ∀ k, vi.ownBlock = some k → k < base)
  (hlen : l.length ≤ 200) (hT : ∀ i, i < l.length → 0 ≤ (M3.at' l i).t ∧ (M3.at' l i).t ≤ 1000000100) (hu : s.u = 0) (ho : s.o.length ≤ 1000) (he : s.e.length ≤ 1000) :
  Calls Tryz.prog 152 #[v, vi, .int .i64 fin] w fun e w' => Arrd base w w' e x y (s.evs l fin) := by
 have hle := h.ow.le
 have hone := hs.one
 obtain ⟨F, hF⟩ : ∃ F, s.evs l fin = F := ⟨_, rfl⟩
 rw [hF]
 have hm0 : s.meas l ≤ 401 := by
  unfold St.meas
  split <;> omega
 have HV : Hid (SlF fM w vi l ∧ (0 < l.length → ∀ k, vi.ownBlock = some k → k < base) ∧ (∀ i, i < l.length → 0 ≤ (M3.at' l i).t ∧ (M3.at' l i).t ≤ 1000000100)) := ⟨hs, hvi, hT⟩
 obtain ⟨av, cv, rfl, -, hlc, hcm, -⟩ := id hs
 unfold maxLen at hcm
 have HI : Hid (s.events l fin (s.meas l) = F ∧ s.meas l ≤ 401) := ⟨hF, hm0⟩
 obtain ⟨N0, hN⟩ : ∃ N0, s.meas l = N0 := ⟨_, rfl⟩
 have HN : Hid (s.meas l = N0) := hN
 clear hF hm0 hN hs hvi hT
 go_enter Tryz.func152, Tryz.ntmps152
 go_wp2_with (first
  | (refine zEt rfl rfl hv ?_; intro w0 r0 hB0)
  | (refine xV rfl rfl ?_; intro w1 z1 hB1; have lg := r0.lt; have hB2 := zD hB0 hB1; have hG : Lw w base w.heap.size w0.heap.size x y vo ve s w1 := ⟨r0.below hB1, z1, h.below hB2, Mild.of hB2⟩))
 have hgz : w0.heap.size ≠ w.heap.size := by omega
 have hg0 : w.heap.size ≤ w.heap.size := Nat.le_refl _
 have hz0 : w.heap.size ≤ w0.heap.size := by omega
 obtain ⟨g, hg⟩ : ∃ g, w.heap.size = g := ⟨_, rfl⟩
 obtain ⟨gz, hgz'⟩ : ∃ gz, w0.heap.size = gz := ⟨_, rfl⟩
 have HG : Hid (w.heap.size ≤ g ∧ w.heap.size ≤ gz ∧ base ≤ g) := ⟨by omega, by omega, by omega⟩
 rw [hgz', hg] at hgz
 rw [hgz', hg] at hG
 rw [hgz', hg]
 clear hg hgz' hg0 hz0 r0 z1 hB0 hB1 hB2 lg
 simp only [Act.put, List.setIfInBounds_toArray, List.set_cons_zero, List.set_cons_succ]
 go_loopg [] N0 (fun n wr => ∃ S vo ve, Lw w base g gz x y vo ve S wr ∧ S.events l fin n = F ∧ S.meas l ≤ n ∧ S.o.length + n ≤ 2000 ∧ S.e.length + n ≤ 2000 ∧ 0 ≤ S.u)
 case atStart => exact ⟨s, vo, ve, hG, by rw [← HN.out]; exact HI.out.1, Nat.le_of_eq HN.out, by have := HI.out.2; have := HN.out; omega, by have := HI.out.2; have := HN.out; omega, by omega⟩
 case round =>
  clear hG h hv ho he hu HI HN
  obtain ⟨S, vo, ve, hG, hF, hm, hno, hne, hu0⟩ := hrel
  obtain ⟨j, hj⟩ : ∃ j : Nat, S.u = (j : Int) := ⟨S.u.toNat, by omega⟩
  obtain ⟨X, hX⟩ : ∃ X, S.m.p.x = X := ⟨_, rfl⟩
  have kx : wr.cell? ⟨g, 22, none⟩ = some (.int .i64 X) := by rw [← hX]; exact (sw hG.row).px
  have ku : wr.cell? ⟨g, 27, none⟩ = some (.int .i64 (j : Int)) := by rw [← hj]; exact (sw hG.row).u
  have hju : S.u.toNat = j := by omega
  have HK : Hid (S.events l fin gk = F ∧ S.meas l ≤ gk ∧ S.o.length + gk ≤ 2000 ∧ S.e.length + gk ≤ 2000 ∧ S.u = (j : Int) ∧ S.m.p.x = X) := ⟨hF, hm, hno, hne, hj, hX⟩
  have hto : S.o.length ≤ 2000 := by omega
  have hte : S.e.length ≤ 2000 := by omega
  have HJ : Hid (∀ b : Bool, (decide (S.u < l.length) && decide ((M3.at' l j).t ≤ fin) && (X == 0 || decide (fin < X) || decide ((M3.at' l j).t ≤ X))) = b → S.takes l fin = b) := fun b hb => by unfold St.takes; rw [hju, hX]; exact hb
  have HD : Hid (∀ b : Bool, (X == 0 || decide (fin < X)) = b → S.idle fin = b) := fun b hb => by unfold St.idle; rw [hX]; exact hb
  have HU : Hid (S.u = (j : Int)) := hj
  clear hF hm hno hne hX hj hju hu0
  by_cases hlt : j < l.length
  ·have hvs := hG.mild.old HV.out.1 HV.out.2.1
   obtain ⟨b, off, c', e, -, -, -⟩ := hvs.shape (by omega)
   simp only [Value.slice.injEq] at e
   obtain ⟨rfl, -, rfl⟩ := e
   obtain ⟨tt, htt⟩ : ∃ tt, (M3.at' l j).t = tt := ⟨_, rfl⟩
   have hc : wr.cell? ⟨b, off + j * 3, none⟩ = some (.int .i64 tt) := by rw [← htt]; exact hvs.cell okM (qM hlt) (j := 0) (by decide)
   have HT : Hid ((M3.at' l j).t = tt) := htt
   clear htt hvs
   have hlt' : (j : Int) < (l.length : Int) := by omega
   by_cases h1 : tt ≤ fin
   ·by_cases hx : X = 0
    ·have HA : Hid (S.takes l fin = true) := HJ.out true (by rw [HT.out, HU.out]; simp [h1, hx, hlt'])
     subst hx
     have hp : 0 < gk := by
      have h1 := (jY HA.out (by have := HU.out; omega) HK.out.2.1).2
      have h2 := zBj HA.out (by have := HU.out; omega)
      have h3 := HK.out.2.1
      omega
     obtain ⟨S', hS'⟩ : ∃ S', S.arrive (M3.at' l j) = S' := ⟨_, rfl⟩
     have hu' : S'.u = (j : Int) := by rw [← hS', zIx]; exact HU.out
     have HS : Hid (S.arrive (M3.at' l j) = S') := hS'
     have HU' : Hid (S'.u = (j : Int)) := hu'
     clear hS' hu'
     go_wp2_with (refine ixF okM (r := j) rfl rfl rfl rfl hlt ?_)
     refine zEx (by kernel_rfl) (by kernel_rfl) 6 7 55 (by decide) rfl rfl (by kernel_rfl) (by kernel_rfl) (by decide) (by kernel_rfl) (fun W => Lw w base g gz x y vo ve S W) (fun v W => LE1 w base g gz x y S' v W) (fun W => LE2 w base g gz x y S' W) (fun v W W' h hb => h.below hb) (fun W W' h hb => h.below hb) [S.val x y vo ve, .slice (some ⟨b, off, none⟩) l.length cv, pt g 27, .int .i64 (j : Int), .pointer (some ⟨b, off + j * 3, none⟩), (M3.at' l j).val, undef, undef] hG.drew ?step ?first ?second ?done (by decide)
     case step =>
      intro L ix o' A W hn1 hn2 hj hI hg hd
      have hin : ix < 8 := qB hj
      have hsz : A.tmps.size = 89 := hI.size
      rcases ix with _ | _ | _ | _ | _ | _ | _ | _ | ix
      ·cases hj; exact zC rfl rfl (wp_load_row _ _ rfl _ (hI.ol 3 rfl) _ _ _ _ hg.row.row Tryz.underlying36 rfl zBo (kk ⟨hg, bl⟩))
      ·cases hj; exact am rfl rfl rfl (kv (hI.ol 1 rfl) ⟨hg, bl⟩)
      ·cases hj; exact zC rfl rfl (zH (x := .tmp 3) (hI.ol 3 rfl) rfl (by kernel_rfl) (kk ⟨hg, bl⟩))
      ·cases hj; exact zC rfl rfl (zN rfl Tryz.underlying2 (hI.vl2 hd 2 rfl) (by have := (sw hg.row).u; rwa [HU.out] at this) (kk ⟨hg, bl⟩))
      ·cases hj; exact zC rfl rfl (xQ okM rfl (hI.vl2 hd 1 rfl) (hI.vl2 hd 3 rfl) hlt (kk ⟨hg, bl⟩))
      ·cases hj; exact zC rfl rfl (jD okM rfl (hI.vl2 hd 4 rfl) ((hg.mild.old HV.out.1 HV.out.2.1).range okM (qM hlt)) (kk ⟨hg, bl⟩))
      ·exact absurd rfl hn1
      ·exact absurd rfl hn2
      omega
     case first =>
      intro L o' A W hj hI hg hd
      cases hj
      have e0 : A.eval (.tmp 49) = S.val x y vo ve := hI.val2 hd 0 49 rfl rfl (by kernel_rfl) (by decide) (by decide)
      have e1 : A.eval (.tmp 54) = (M3.at' l j).val := hI.val2 hd 5 54 rfl rfl (by kernel_rfl) (by decide) (by decide)
      refine zC rfl rfl (zS rfl Tryz.func224 (by kernel_rfl) (by kernel_rfl) ?_)
      simp only [List.map_cons, List.map_nil, e0, e1]
      refine (zC2 _ x y vo ve S (M3.at' l j) W base rfl hg.so (HV.out.2.2 j hlt) (by omega) (by omega)).mono ?_
      rw [HS.out]
      rintro e W1 ⟨vo1, ve1, rfl, so1, t1⟩
      exact ⟨_, rfl, _, rfl, vo1, ve1, rfl, so1, t1.row hg.z zJ, hg.mild.trans t1, _, _, _, _, _, t1.row hg.row zJ⟩
     case second =>
      intro L o' A W hj hI hE hd
      cases hj
      have e0 : A.eval (.tmp 3) = .pointer (some ⟨g, 0, none⟩) := hI.old 3 (by kernel_rfl)
      obtain ⟨vo1, ve1, ev, so1, z1, M1, x0, y0, o0, q0, s0, r1⟩ := hE
      have e1 : A.eval (.tmp 55) = S'.val x y vo1 ve1 := ev
      refine zC rfl rfl (zNa rfl e0 e1 r1 (zB so1.ow.hx) (zB so1.ow.hy) (so1.o.one okM) (so1.e.one okE) (fun W2 r2 o2 => ?_))
      have so2 := so1.row o2 r1 zJ (by decide)
      have z2 := z1.onto o2 hgz
      have M2 := M1.new o2 HG.out.1
      exact ⟨rfl, ⟨vo1, ve1, ev, so2, z2, M2, _, _, _, _, _, r2⟩, vo1, ve1, r2, z2, so2, M2⟩
     case done =>
      intro A W hI hE1 hE2
      have hA := hI.frame [49, 50, 51, 52, 53, 54, 55] (by kernel_rfl)
      rw [hA]
      simp only [qJ, List.foldl_cons, List.foldl_nil, Act.put, List.setIfInBounds_toArray, List.set_cons_zero, List.set_cons_succ]
      clear hA hI
      obtain ⟨vo2, ve2, hL⟩ := hE2
      clear hE1
      have r5 := hL.row
      have ku2 : W.cell? ⟨g, 27, none⟩ = some (.int .i64 (j : Int)) := by have := (sw hL.row).u; rwa [HU'.out] at this
      go_wp2_with (refine zCd (s' := { S' with u := (j : Int) + 1 }) rfl rfl rfl rfl r5 rfl rfl ?_; rintro w6 r6 o6 -)
      have so6 := (hL.so.row o6 r5 zJ (by decide)).as (s' := { S' with u := (j : Int) + 1 }) rfl rfl rfl rfl
      have z6 := hL.z.onto o6 hgz
      have M6 := hL.mild.new o6 HG.out.1
      go_roundg (gk - 1)
      case measure => omega
      case rel =>
       have ht := jY HA.out (by have := HU.out; omega) HK.out.2.1
       have et : S.taken l = { S' with u := (j : Int) + 1 } := by
        unfold St.taken
        rw [show S.u.toNat = j by have := HU.out; omega, HS.out, HU.out]
       rw [et] at ht
       have hmo := zEa S (M3.at' l j)
       rw [HS.out] at hmo
       have h3 := HK.out
       refine ⟨_, vo2, ve2, ⟨r6, z6, so6, M6⟩, ht.1.symm.trans h3.1, ht.2, ?_, ?_, ?_⟩
       ·show S'.o.length + (gk - 1) ≤ 2000; omega
       ·show S'.e.length + (gk - 1) ≤ 2000; omega
       ·show 0 ≤ (j : Int) + 1; omega
    ·have hx0 : (X == 0) = false := by simpa using hx
     by_cases h2 : fin < X
     ·have HA : Hid (S.takes l fin = true) := HJ.out true (by rw [HT.out, HU.out]; simp [h1, h2, hlt'])
      have hp : 0 < gk := by
       have h1 := (jY HA.out (by have := HU.out; omega) HK.out.2.1).2
       have h2 := zBj HA.out (by have := HU.out; omega)
       have h3 := HK.out.2.1
       omega
      obtain ⟨S', hS'⟩ : ∃ S', S.arrive (M3.at' l j) = S' := ⟨_, rfl⟩
      have hu' : S'.u = (j : Int) := by rw [← hS', zIx]; exact HU.out
      have HS : Hid (S.arrive (M3.at' l j) = S') := hS'
      have HU' : Hid (S'.u = (j : Int)) := hu'
      clear hS' hu'
      go_wp2_with (refine ixF okM (r := j) rfl rfl rfl rfl hlt ?_)
      refine zEx (by kernel_rfl) (by kernel_rfl) 6 7 55 (by decide) rfl rfl (by kernel_rfl) (by kernel_rfl) (by decide) (by kernel_rfl) (fun W => Lw w base g gz x y vo ve S W) (fun v W => LE1 w base g gz x y S' v W) (fun W => LE2 w base g gz x y S' W) (fun v W W' h hb => h.below hb) (fun W W' h hb => h.below hb) [S.val x y vo ve, .slice (some ⟨b, off, none⟩) l.length cv, pt g 27, .int .i64 (j : Int), .pointer (some ⟨b, off + j * 3, none⟩), (M3.at' l j).val, undef, undef] hG.drew ?step ?first ?second ?done (by decide)
      case step =>
       intro L ix o' A W hn1 hn2 hj hI hg hd
       have hin : ix < 8 := qB hj
       have hsz : A.tmps.size = 89 := hI.size
       rcases ix with _ | _ | _ | _ | _ | _ | _ | _ | ix
       ·cases hj; exact zC rfl rfl (wp_load_row _ _ rfl _ (hI.ol 3 rfl) _ _ _ _ hg.row.row Tryz.underlying36 rfl zBo (kk ⟨hg, bl⟩))
       ·cases hj; exact am rfl rfl rfl (kv (hI.ol 1 rfl) ⟨hg, bl⟩)
       ·cases hj; exact zC rfl rfl (zH (x := .tmp 3) (hI.ol 3 rfl) rfl (by kernel_rfl) (kk ⟨hg, bl⟩))
       ·cases hj; exact zC rfl rfl (zN rfl Tryz.underlying2 (hI.vl2 hd 2 rfl) (by have := (sw hg.row).u; rwa [HU.out] at this) (kk ⟨hg, bl⟩))
       ·cases hj; exact zC rfl rfl (xQ okM rfl (hI.vl2 hd 1 rfl) (hI.vl2 hd 3 rfl) hlt (kk ⟨hg, bl⟩))
       ·cases hj; exact zC rfl rfl (jD okM rfl (hI.vl2 hd 4 rfl) ((hg.mild.old HV.out.1 HV.out.2.1).range okM (qM hlt)) (kk ⟨hg, bl⟩))
       ·exact absurd rfl hn1
       ·exact absurd rfl hn2
       omega
      case first =>
       intro L o' A W hj hI hg hd
       cases hj
       have e0 : A.eval (.tmp 49) = S.val x y vo ve := hI.val2 hd 0 49 rfl rfl (by kernel_rfl) (by decide) (by decide)
       have e1 : A.eval (.tmp 54) = (M3.at' l j).val := hI.val2 hd 5 54 rfl rfl (by kernel_rfl) (by decide) (by decide)
       refine zC rfl rfl (zS rfl Tryz.func224 (by kernel_rfl) (by kernel_rfl) ?_)
       simp only [List.map_cons, List.map_nil, e0, e1]
       refine (zC2 _ x y vo ve S (M3.at' l j) W base rfl hg.so (HV.out.2.2 j hlt) (by omega) (by omega)).mono ?_
       rw [HS.out]
       rintro e W1 ⟨vo1, ve1, rfl, so1, t1⟩
       exact ⟨_, rfl, _, rfl, vo1, ve1, rfl, so1, t1.row hg.z zJ, hg.mild.trans t1, _, _, _, _, _, t1.row hg.row zJ⟩
      case second =>
       intro L o' A W hj hI hE hd
       cases hj
       have e0 : A.eval (.tmp 3) = .pointer (some ⟨g, 0, none⟩) := hI.old 3 (by kernel_rfl)
       obtain ⟨vo1, ve1, ev, so1, z1, M1, x0, y0, o0, q0, s0, r1⟩ := hE
       have e1 : A.eval (.tmp 55) = S'.val x y vo1 ve1 := ev
       refine zC rfl rfl (zNa rfl e0 e1 r1 (zB so1.ow.hx) (zB so1.ow.hy) (so1.o.one okM) (so1.e.one okE) (fun W2 r2 o2 => ?_))
       have so2 := so1.row o2 r1 zJ (by decide)
       have z2 := z1.onto o2 hgz
       have M2 := M1.new o2 HG.out.1
       exact ⟨rfl, ⟨vo1, ve1, ev, so2, z2, M2, _, _, _, _, _, r2⟩, vo1, ve1, r2, z2, so2, M2⟩
      case done =>
       intro A W hI hE1 hE2
       have hA := hI.frame [49, 50, 51, 52, 53, 54, 55] (by kernel_rfl)
       rw [hA]
       simp only [qJ, List.foldl_cons, List.foldl_nil, Act.put, List.setIfInBounds_toArray, List.set_cons_zero, List.set_cons_succ]
       clear hA hI
       obtain ⟨vo2, ve2, hL⟩ := hE2
       clear hE1
       have r5 := hL.row
       have ku2 : W.cell? ⟨g, 27, none⟩ = some (.int .i64 (j : Int)) := by have := (sw hL.row).u; rwa [HU'.out] at this
       go_wp2_with (refine zCd (s' := { S' with u := (j : Int) + 1 }) rfl rfl rfl rfl r5 rfl rfl ?_; rintro w6 r6 o6 -)
       have so6 := (hL.so.row o6 r5 zJ (by decide)).as (s' := { S' with u := (j : Int) + 1 }) rfl rfl rfl rfl
       have z6 := hL.z.onto o6 hgz
       have M6 := hL.mild.new o6 HG.out.1
       go_roundg (gk - 1)
       case measure => omega
       case rel =>
        have ht := jY HA.out (by have := HU.out; omega) HK.out.2.1
        have et : S.taken l = { S' with u := (j : Int) + 1 } := by
         unfold St.taken
         rw [show S.u.toNat = j by have := HU.out; omega, HS.out, HU.out]
        rw [et] at ht
        have hmo := zEa S (M3.at' l j)
        rw [HS.out] at hmo
        have h3 := HK.out
        refine ⟨_, vo2, ve2, ⟨r6, z6, so6, M6⟩, ht.1.symm.trans h3.1, ht.2, ?_, ?_, ?_⟩
        ·show S'.o.length + (gk - 1) ≤ 2000; omega
        ·show S'.e.length + (gk - 1) ≤ 2000; omega
        ·show 0 ≤ (j : Int) + 1; omega
     ·by_cases h3 : tt ≤ X
      ·have HA : Hid (S.takes l fin = true) := HJ.out true (by rw [HT.out, HU.out]; simp [h1, h3, hlt'])
       have hp : 0 < gk := by
        have h1 := (jY HA.out (by have := HU.out; omega) HK.out.2.1).2
        have h2 := zBj HA.out (by have := HU.out; omega)
        have h3 := HK.out.2.1
        omega
       obtain ⟨S', hS'⟩ : ∃ S', S.arrive (M3.at' l j) = S' := ⟨_, rfl⟩
       have hu' : S'.u = (j : Int) := by rw [← hS', zIx]; exact HU.out
       have HS : Hid (S.arrive (M3.at' l j) = S') := hS'
       have HU' : Hid (S'.u = (j : Int)) := hu'
       clear hS' hu'
       go_wp2_with (refine ixF okM (r := j) rfl rfl rfl rfl hlt ?_)
       refine zEx (by kernel_rfl) (by kernel_rfl) 6 7 55 (by decide) rfl rfl (by kernel_rfl) (by kernel_rfl) (by decide) (by kernel_rfl) (fun W => Lw w base g gz x y vo ve S W) (fun v W => LE1 w base g gz x y S' v W) (fun W => LE2 w base g gz x y S' W) (fun v W W' h hb => h.below hb) (fun W W' h hb => h.below hb) [S.val x y vo ve, .slice (some ⟨b, off, none⟩) l.length cv, pt g 27, .int .i64 (j : Int), .pointer (some ⟨b, off + j * 3, none⟩), (M3.at' l j).val, undef, undef] hG.drew ?step ?first ?second ?done (by decide)
       case step =>
        intro L ix o' A W hn1 hn2 hj hI hg hd
        have hin : ix < 8 := qB hj
        have hsz : A.tmps.size = 89 := hI.size
        rcases ix with _ | _ | _ | _ | _ | _ | _ | _ | ix
        ·cases hj; exact zC rfl rfl (wp_load_row _ _ rfl _ (hI.ol 3 rfl) _ _ _ _ hg.row.row Tryz.underlying36 rfl zBo (kk ⟨hg, bl⟩))
        ·cases hj; exact am rfl rfl rfl (kv (hI.ol 1 rfl) ⟨hg, bl⟩)
        ·cases hj; exact zC rfl rfl (zH (x := .tmp 3) (hI.ol 3 rfl) rfl (by kernel_rfl) (kk ⟨hg, bl⟩))
        ·cases hj; exact zC rfl rfl (zN rfl Tryz.underlying2 (hI.vl2 hd 2 rfl) (by have := (sw hg.row).u; rwa [HU.out] at this) (kk ⟨hg, bl⟩))
        ·cases hj; exact zC rfl rfl (xQ okM rfl (hI.vl2 hd 1 rfl) (hI.vl2 hd 3 rfl) hlt (kk ⟨hg, bl⟩))
        ·cases hj; exact zC rfl rfl (jD okM rfl (hI.vl2 hd 4 rfl) ((hg.mild.old HV.out.1 HV.out.2.1).range okM (qM hlt)) (kk ⟨hg, bl⟩))
        ·exact absurd rfl hn1
        ·exact absurd rfl hn2
        omega
       case first =>
        intro L o' A W hj hI hg hd
        cases hj
        have e0 : A.eval (.tmp 49) = S.val x y vo ve := hI.val2 hd 0 49 rfl rfl (by kernel_rfl) (by decide) (by decide)
        have e1 : A.eval (.tmp 54) = (M3.at' l j).val := hI.val2 hd 5 54 rfl rfl (by kernel_rfl) (by decide) (by decide)
        refine zC rfl rfl (zS rfl Tryz.func224 (by kernel_rfl) (by kernel_rfl) ?_)
        simp only [List.map_cons, List.map_nil, e0, e1]
        refine (zC2 _ x y vo ve S (M3.at' l j) W base rfl hg.so (HV.out.2.2 j hlt) (by omega) (by omega)).mono ?_
        rw [HS.out]
        rintro e W1 ⟨vo1, ve1, rfl, so1, t1⟩
        exact ⟨_, rfl, _, rfl, vo1, ve1, rfl, so1, t1.row hg.z zJ, hg.mild.trans t1, _, _, _, _, _, t1.row hg.row zJ⟩
       case second =>
        intro L o' A W hj hI hE hd
        cases hj
        have e0 : A.eval (.tmp 3) = .pointer (some ⟨g, 0, none⟩) := hI.old 3 (by kernel_rfl)
        obtain ⟨vo1, ve1, ev, so1, z1, M1, x0, y0, o0, q0, s0, r1⟩ := hE
        have e1 : A.eval (.tmp 55) = S'.val x y vo1 ve1 := ev
        refine zC rfl rfl (zNa rfl e0 e1 r1 (zB so1.ow.hx) (zB so1.ow.hy) (so1.o.one okM) (so1.e.one okE) (fun W2 r2 o2 => ?_))
        have so2 := so1.row o2 r1 zJ (by decide)
        have z2 := z1.onto o2 hgz
        have M2 := M1.new o2 HG.out.1
        exact ⟨rfl, ⟨vo1, ve1, ev, so2, z2, M2, _, _, _, _, _, r2⟩, vo1, ve1, r2, z2, so2, M2⟩
       case done =>
        intro A W hI hE1 hE2
        have hA := hI.frame [49, 50, 51, 52, 53, 54, 55] (by kernel_rfl)
        rw [hA]
        simp only [qJ, List.foldl_cons, List.foldl_nil, Act.put, List.setIfInBounds_toArray, List.set_cons_zero, List.set_cons_succ]
        clear hA hI
        obtain ⟨vo2, ve2, hL⟩ := hE2
        clear hE1
        have r5 := hL.row
        have ku2 : W.cell? ⟨g, 27, none⟩ = some (.int .i64 (j : Int)) := by have := (sw hL.row).u; rwa [HU'.out] at this
        go_wp2_with (refine zCd (s' := { S' with u := (j : Int) + 1 }) rfl rfl rfl rfl r5 rfl rfl ?_; rintro w6 r6 o6 -)
        have so6 := (hL.so.row o6 r5 zJ (by decide)).as (s' := { S' with u := (j : Int) + 1 }) rfl rfl rfl rfl
        have z6 := hL.z.onto o6 hgz
        have M6 := hL.mild.new o6 HG.out.1
        go_roundg (gk - 1)
        case measure => omega
        case rel =>
         have ht := jY HA.out (by have := HU.out; omega) HK.out.2.1
         have et : S.taken l = { S' with u := (j : Int) + 1 } := by
          unfold St.taken
          rw [show S.u.toNat = j by have := HU.out; omega, HS.out, HU.out]
         rw [et] at ht
         have hmo := zEa S (M3.at' l j)
         rw [HS.out] at hmo
         have h3 := HK.out
         refine ⟨_, vo2, ve2, ⟨r6, z6, so6, M6⟩, ht.1.symm.trans h3.1, ht.2, ?_, ?_, ?_⟩
         ·show S'.o.length + (gk - 1) ≤ 2000; omega
         ·show S'.e.length + (gk - 1) ≤ 2000; omega
         ·show 0 ≤ (j : Int) + 1; omega
      ·have HA : Hid (S.takes l fin = false) := HJ.out false (by rw [HT.out]; simp [h2, h3, hx])
       have HE : Hid (S.idle fin = false) := HD.out false (by simp [h2, hx])
       obtain ⟨P, A, B, hP⟩ : ∃ P A B, S.m.p.send fin = (P, A, B) := ⟨_, _, _, rfl⟩
       have hAb : -1 ≤ A ∧ A ≤ 1000000000 := by have := zCq S.m.p fin; rwa [hP] at this
       have HP : Hid (S.m.p.send fin = (P, A, B)) := hP
       clear hP
       have lrow := hG.row.lt
       have lz := hG.z.lt
       have hle0 := hG.so.ow.le
       go_wp2_with (first
        | (refine ixF okM (r := j) rfl rfl rfl rfl hlt ?_)
        | (refine zH7 rfl rfl rfl hG.row ?_)
        | (go_at_call 225; refine (zBg S.m.p fin _).mono ?_; rw [HP.out]; rintro e w3 ⟨rfl, hb3⟩; have G3 := hG.below hb3; have l3 := G3.row.lt; have lz3 := G3.z.lt; have hM3 := G3.mild.size; clear kx ku)
        | (refine al_p rfl rfl ?_; intro w4 p4 hb4; have G4 := G3.below hb4; have lp := p4.lt)
        | (refine zLd rfl rfl rfl rfl p4 ?_; rintro w5 p5 o5; have r5 := G4.row.onto o5 (by omega); have z5 := G4.z.onto o5 (by omega); have so5 := G4.so.row o5 p4 zKf (by decide); have M5 := G4.mild.new o5 (by omega))
        | (refine zEq rfl rfl rfl p5 ?_)
        | (refine zHm rfl rfl rfl rfl r5 ?_; rintro w6 r6 o6 -; have z6 := z5.onto o6 hgz; have so6 := (so5.row o6 r5 zJ (by decide)).as (s' := S.port P) rfl rfl rfl rfl; have M6 := M5.new o6 HG.out.1; have ko6 := (sw r6).o; have hal : Below w6.heap.size w6 (w6.alloc (.cells #[.int .i64 (A + 8), .int .i64 1, .int .i64 B] 40)) := (Below.refl _ _).alloc (Nat.le_refl _) _; have hlit := xO fM okM w6.heap.size w6 #[.int .i64 (A + 8), .int .i64 1, .int .i64 B] [⟨A + 8, 1, B⟩] rfl (by unfold maxLen; simp) (Nat.le_refl _); have so7 := so6.below hal)
        | (at_builtin; refine appF okM rfl (.tmp 81) (.tmp 86) rfl base S.o [⟨A + 8, 1, B⟩] so7.o (hlit.sl okM) (by simp; omega) (by have := so7.ow.le; omega) ?_; intro v8 w8 ho8 hg8; have t8 := Mild.grown zBi so7.o hg8; have r8 := t8.row (r6.below hal) zJ; have z8 := t8.row (z6.below hal) zJ; have so8 : So base w8 x y v8 ve ((S.port P).sends ⟨A + 8, 1, B⟩) := ⟨(t8.ow so7.ow).as rfl rfl, ho8, so7.e.grown hg8 (fun k hk e => (OwnF.apart so7.o so7.e (by decide)) k hk e)⟩; have M8 := (M6.trans (Mild.of hal)).trans t8)
        | (refine zLc (l := S.o ++ [⟨A + 8, 1, B⟩]) rfl rfl rfl rfl r8 (ho8.one okM) ?_; rintro w9 r9 o9 -; have z9 := z8.onto o9 hgz; have so9 := so8.row o9 r8 zJ (by decide); have M9 := M8.new o9 HG.out.1))
       go_roundg (gk - 1)
       case measure =>
        have h2 := vC (l := l) HE.out
        have h3 := HK.out.2.1
        omega
       case rel =>
        have ht := zBx HA.out HE.out HK.out.2.1
        have h2 := vC (l := l) HE.out
        have et : S.beats fin = (S.port P).sends ⟨A + 8, 1, B⟩ := by
         unfold St.beats
         rw [HP.out]
        rw [et] at ht h2
        have h3 := HK.out
        refine ⟨_, v8, ve, ⟨r9, z9, so9, M9⟩, ht.1.symm.trans h3.1, ht.2, ?_, ?_, ?_⟩
        ·show (S.o ++ [_]).length + (gk - 1) ≤ 2000
         simp
         omega
        ·show S.e.length + (gk - 1) ≤ 2000; omega
        ·show 0 ≤ S.u
         have := HU.out
         omega
   ·have HA : Hid (S.takes l fin = false) := HJ.out false (by rw [HT.out]; simp [h1])
    by_cases hx : X = 0
    ·have HE : Hid (S.idle fin = true) := HD.out true (by simp [hx])
     subst hx
     go_wp2_with (first
      | (refine ixF okM (r := j) rfl rfl rfl rfl hlt ?_)
      | (refine vP rfl rfl rfl hG.row ?_)
      | (refine st_s rfl rfl rfl rfl hG.z (zB hG.so.ow.hx) (zB hG.so.ow.hy) (hG.so.o.one okM) (hG.so.e.one okE) ?_; rintro w6 r6 o6 -))
     refine zDu rfl rfl r6 rfl ?_
     have e1 := HK.out.1
     rw [zA0 HA.out HE.out] at e1
     rw [← e1]
     exact ⟨vo, ve, rfl, hG.so.row o6 hG.z zJ (by decide), hG.mild.new o6 HG.out.2.1⟩
    ·have hx0 : (X == 0) = false := by simpa using hx
     by_cases h2 : fin < X
     ·have HE : Hid (S.idle fin = true) := HD.out true (by simp [h2])
      go_wp2_with (first
       | (refine ixF okM (r := j) rfl rfl rfl rfl hlt ?_)
       | (refine vP rfl rfl rfl hG.row ?_)
       | (refine st_s rfl rfl rfl rfl hG.z (zB hG.so.ow.hx) (zB hG.so.ow.hy) (hG.so.o.one okM) (hG.so.e.one okE) ?_; rintro w6 r6 o6 -))
      refine zDu rfl rfl r6 rfl ?_
      have e1 := HK.out.1
      rw [zA0 HA.out HE.out] at e1
      rw [← e1]
      exact ⟨vo, ve, rfl, hG.so.row o6 hG.z zJ (by decide), hG.mild.new o6 HG.out.2.1⟩
     ·have HE : Hid (S.idle fin = false) := HD.out false (by simp [h2, hx])
      obtain ⟨P, A, B, hP⟩ : ∃ P A B, S.m.p.send fin = (P, A, B) := ⟨_, _, _, rfl⟩
      have hAb : -1 ≤ A ∧ A ≤ 1000000000 := by have := zCq S.m.p fin; rwa [hP] at this
      have HP : Hid (S.m.p.send fin = (P, A, B)) := hP
      clear hP
      have lrow := hG.row.lt
      have lz := hG.z.lt
      have hle0 := hG.so.ow.le
      go_wp2_with (first
       | (refine ixF okM (r := j) rfl rfl rfl rfl hlt ?_)
       | (refine zH7 rfl rfl rfl hG.row ?_)
       | (go_at_call 225; refine (zBg S.m.p fin _).mono ?_; rw [HP.out]; rintro e w3 ⟨rfl, hb3⟩; have G3 := hG.below hb3; have l3 := G3.row.lt; have lz3 := G3.z.lt; have hM3 := G3.mild.size; clear kx ku)
       | (refine al_p rfl rfl ?_; intro w4 p4 hb4; have G4 := G3.below hb4; have lp := p4.lt)
       | (refine zLd rfl rfl rfl rfl p4 ?_; rintro w5 p5 o5; have r5 := G4.row.onto o5 (by omega); have z5 := G4.z.onto o5 (by omega); have so5 := G4.so.row o5 p4 zKf (by decide); have M5 := G4.mild.new o5 (by omega))
       | (refine zEq rfl rfl rfl p5 ?_)
       | (refine zHm rfl rfl rfl rfl r5 ?_; rintro w6 r6 o6 -; have z6 := z5.onto o6 hgz; have so6 := (so5.row o6 r5 zJ (by decide)).as (s' := S.port P) rfl rfl rfl rfl; have M6 := M5.new o6 HG.out.1; have ko6 := (sw r6).o; have hal : Below w6.heap.size w6 (w6.alloc (.cells #[.int .i64 (A + 8), .int .i64 1, .int .i64 B] 40)) := (Below.refl _ _).alloc (Nat.le_refl _) _; have hlit := xO fM okM w6.heap.size w6 #[.int .i64 (A + 8), .int .i64 1, .int .i64 B] [⟨A + 8, 1, B⟩] rfl (by unfold maxLen; simp) (Nat.le_refl _); have so7 := so6.below hal)
       | (at_builtin; refine appF okM rfl (.tmp 81) (.tmp 86) rfl base S.o [⟨A + 8, 1, B⟩] so7.o (hlit.sl okM) (by simp; omega) (by have := so7.ow.le; omega) ?_; intro v8 w8 ho8 hg8; have t8 := Mild.grown zBi so7.o hg8; have r8 := t8.row (r6.below hal) zJ; have z8 := t8.row (z6.below hal) zJ; have so8 : So base w8 x y v8 ve ((S.port P).sends ⟨A + 8, 1, B⟩) := ⟨(t8.ow so7.ow).as rfl rfl, ho8, so7.e.grown hg8 (fun k hk e => (OwnF.apart so7.o so7.e (by decide)) k hk e)⟩; have M8 := (M6.trans (Mild.of hal)).trans t8)
       | (refine zLc (l := S.o ++ [⟨A + 8, 1, B⟩]) rfl rfl rfl rfl r8 (ho8.one okM) ?_; rintro w9 r9 o9 -; have z9 := z8.onto o9 hgz; have so9 := so8.row o9 r8 zJ (by decide); have M9 := M8.new o9 HG.out.1))
      go_roundg (gk - 1)
      case measure =>
       have h2 := vC (l := l) HE.out
       have h3 := HK.out.2.1
       omega
      case rel =>
       have ht := zBx HA.out HE.out HK.out.2.1
       have h2 := vC (l := l) HE.out
       have et : S.beats fin = (S.port P).sends ⟨A + 8, 1, B⟩ := by
        unfold St.beats
        rw [HP.out]
       rw [et] at ht h2
       have h3 := HK.out
       refine ⟨_, v8, ve, ⟨r9, z9, so9, M9⟩, ht.1.symm.trans h3.1, ht.2, ?_, ?_, ?_⟩
       ·show (S.o ++ [_]).length + (gk - 1) ≤ 2000
        simp
        omega
       ·show S.e.length + (gk - 1) ≤ 2000; omega
       ·show 0 ≤ S.u
        have := HU.out
        omega
  ·have hlt' : ¬ (j : Int) < (l.length : Int) := by omega
   have HA : Hid (S.takes l fin = false) := HJ.out false (by rw [HU.out]; simp [hlt'])
   by_cases hx : X = 0
   ·have HE : Hid (S.idle fin = true) := HD.out true (by simp [hx])
    subst hx
    go_wp2_with (first
     | (refine ixF okM (r := j) rfl rfl rfl rfl hlt ?_)
     | (refine vP rfl rfl rfl hG.row ?_)
     | (refine st_s rfl rfl rfl rfl hG.z (zB hG.so.ow.hx) (zB hG.so.ow.hy) (hG.so.o.one okM) (hG.so.e.one okE) ?_; rintro w6 r6 o6 -))
    refine zDu rfl rfl r6 rfl ?_
    have e1 := HK.out.1
    rw [zA0 HA.out HE.out] at e1
    rw [← e1]
    exact ⟨vo, ve, rfl, hG.so.row o6 hG.z zJ (by decide), hG.mild.new o6 HG.out.2.1⟩
   ·have hx0 : (X == 0) = false := by simpa using hx
    by_cases h2 : fin < X
    ·have HE : Hid (S.idle fin = true) := HD.out true (by simp [h2])
     go_wp2_with (first
      | (refine ixF okM (r := j) rfl rfl rfl rfl hlt ?_)
      | (refine vP rfl rfl rfl hG.row ?_)
      | (refine st_s rfl rfl rfl rfl hG.z (zB hG.so.ow.hx) (zB hG.so.ow.hy) (hG.so.o.one okM) (hG.so.e.one okE) ?_; rintro w6 r6 o6 -))
     refine zDu rfl rfl r6 rfl ?_
     have e1 := HK.out.1
     rw [zA0 HA.out HE.out] at e1
     rw [← e1]
     exact ⟨vo, ve, rfl, hG.so.row o6 hG.z zJ (by decide), hG.mild.new o6 HG.out.2.1⟩
    ·have HE : Hid (S.idle fin = false) := HD.out false (by simp [h2, hx])
     obtain ⟨P, A, B, hP⟩ : ∃ P A B, S.m.p.send fin = (P, A, B) := ⟨_, _, _, rfl⟩
     have hAb : -1 ≤ A ∧ A ≤ 1000000000 := by have := zCq S.m.p fin; rwa [hP] at this
     have HP : Hid (S.m.p.send fin = (P, A, B)) := hP
     clear hP
     have lrow := hG.row.lt
     have lz := hG.z.lt
     have hle0 := hG.so.ow.le
     go_wp2_with (first
      | (refine ixF okM (r := j) rfl rfl rfl rfl hlt ?_)
      | (refine zH7 rfl rfl rfl hG.row ?_)
      | (go_at_call 225; refine (zBg S.m.p fin _).mono ?_; rw [HP.out]; rintro e w3 ⟨rfl, hb3⟩; have G3 := hG.below hb3; have l3 := G3.row.lt; have lz3 := G3.z.lt; have hM3 := G3.mild.size; clear kx ku)
      | (refine al_p rfl rfl ?_; intro w4 p4 hb4; have G4 := G3.below hb4; have lp := p4.lt)
      | (refine zLd rfl rfl rfl rfl p4 ?_; rintro w5 p5 o5; have r5 := G4.row.onto o5 (by omega); have z5 := G4.z.onto o5 (by omega); have so5 := G4.so.row o5 p4 zKf (by decide); have M5 := G4.mild.new o5 (by omega))
      | (refine zEq rfl rfl rfl p5 ?_)
      | (refine zHm rfl rfl rfl rfl r5 ?_; rintro w6 r6 o6 -; have z6 := z5.onto o6 hgz; have so6 := (so5.row o6 r5 zJ (by decide)).as (s' := S.port P) rfl rfl rfl rfl; have M6 := M5.new o6 HG.out.1; have ko6 := (sw r6).o; have hal : Below w6.heap.size w6 (w6.alloc (.cells #[.int .i64 (A + 8), .int .i64 1, .int .i64 B] 40)) := (Below.refl _ _).alloc (Nat.le_refl _) _; have hlit := xO fM okM w6.heap.size w6 #[.int .i64 (A + 8), .int .i64 1, .int .i64 B] [⟨A + 8, 1, B⟩] rfl (by unfold maxLen; simp) (Nat.le_refl _); have so7 := so6.below hal)
      | (at_builtin; refine appF okM rfl (.tmp 81) (.tmp 86) rfl base S.o [⟨A + 8, 1, B⟩] so7.o (hlit.sl okM) (by simp; omega) (by have := so7.ow.le; omega) ?_; intro v8 w8 ho8 hg8; have t8 := Mild.grown zBi so7.o hg8; have r8 := t8.row (r6.below hal) zJ; have z8 := t8.row (z6.below hal) zJ; have so8 : So base w8 x y v8 ve ((S.port P).sends ⟨A + 8, 1, B⟩) := ⟨(t8.ow so7.ow).as rfl rfl, ho8, so7.e.grown hg8 (fun k hk e => (OwnF.apart so7.o so7.e (by decide)) k hk e)⟩; have M8 := (M6.trans (Mild.of hal)).trans t8)
      | (refine zLc (l := S.o ++ [⟨A + 8, 1, B⟩]) rfl rfl rfl rfl r8 (ho8.one okM) ?_; rintro w9 r9 o9 -; have z9 := z8.onto o9 hgz; have so9 := so8.row o9 r8 zJ (by decide); have M9 := M8.new o9 HG.out.1))
     go_roundg (gk - 1)
     case measure =>
      have h2 := vC (l := l) HE.out
      have h3 := HK.out.2.1
      omega
     case rel =>
      have ht := zBx HA.out HE.out HK.out.2.1
      have h2 := vC (l := l) HE.out
      have et : S.beats fin = (S.port P).sends ⟨A + 8, 1, B⟩ := by
       unfold St.beats
       rw [HP.out]
      rw [et] at ht h2
      have h3 := HK.out
      refine ⟨_, v8, ve, ⟨r9, z9, so9, M9⟩, ht.1.symm.trans h3.1, ht.2, ?_, ?_, ?_⟩
      ·show (S.o ++ [_]).length + (gk - 1) ≤ 2000
       simp
       omega
      ·show S.e.length + (gk - 1) ≤ 2000; omega
      ·show 0 ≤ S.u
       have := HU.out
       omega
end Go.Proofs.YtamldhflkfbdnaaGreatDoor.Mem
namespace Go.Proofs.YtamldhflkfbdnaaGreatDoor.Mem
open Go.ChangeShapes Go.WideShapes Go.RowKit Base Num Slc Slf Rw Tmr Reg

theorem zCu {l : List M3} (h : qH l = true) : l.length ≤ 200 := by
 simp only [qH, Bool.and_eq_true, decide_eq_true_eq] at h
 exact h.2
theorem zKp {ops : Array Oper} {rest : List Oper} {o : Oper} {a : Act} {w : World} {Q : Exit → Act → World → Prop} {x : Operand} {g : Nat} {m : M3} (hw : Region.wanted o (yielded ops a.tmps) = true) (ho : o.op = .load 40 x) (hx : a.eval x = .pointer (some ⟨g, 0, none⟩)) (hr : jQ w g m)
  (h : wpList Tryz.prog ops Q rest (a.put o.dst m.val) w) : wpList Tryz.prog ops Q (o :: rest) a w :=
 wpList_step fun K hK => by
  rw [if_pos hw]
  exact wp_load_row _ _ ho _ hx _ _ _ _ hr.row Tryz.underlying40 rfl jJ (hK _ _ h)
theorem zIe (v : Value) (l : List M3) (m : M3) (w : World) (h : SlF fM w v l) :
  Calls Tryz.prog 16 #[v, m.val] w fun e w' => ∃ v', e = .returned (.tuple #[v', .bool (xL l m).2]) ∧ OwnF fM w.heap.size w' v' (xL l m).1 ∧ Below w.heap.size w w' := by
 obtain ⟨vv, hvv⟩ : ∃ vv, vv = m.val := ⟨_, rfl⟩
 obtain ⟨r, HR⟩ : ∃ r, Hid (r = xL l m) := ⟨_, show _ = _ from rfl⟩
 rw [← hvv, ← HR.out]
 have hone := h.one
 obtain ⟨a, cap, rfl, -, hlc, hcm, -⟩ := id h
 unfold maxLen at hcm
 cases hok : qH l
 ·have hr : Hid (r = ([], false)) := show _ = _ by rw [HR.out]; simp [xL, hok]
  go_enter Tryz.func16, Tryz.ntmps16
  go_wp2_with (first
   | (refine xD rfl rfl hvv ?_; intro w0 r0 hB0; have hs0 := h.below hB0)
   | (go_at_call 21; refine (xU _ l _ hs0).mono ?_; rintro e w1 ⟨rfl, hb1⟩; rw [hok]; have hB1 := zD hB0 hb1))
  go_ret2
  rw [hr.out]
  exact ⟨_, rfl, xO fM okM w.heap.size w1 #[] [] rfl (by decide) hB1.size, hB1.alloc hB1.size _⟩
 ·have hfew := zCu hok
  by_cases h2 : 200 ≤ l.length
  ·have hr : Hid (r = (l, false)) := show _ = _ by rw [HR.out]; simp [xL, hok, h2]
   have hd : decide ((200 : Int) ≤ (l.length : Int)) = true := by simp; omega
   go_enter Tryz.func16, Tryz.ntmps16
   go_wp2_with (first
    | (refine xD rfl rfl hvv ?_; intro w0 r0 hB0; have hs0 := h.below hB0)
    | (go_at_call 21; refine (xU _ l _ hs0).mono ?_; rintro e w1 ⟨rfl, hb1⟩; rw [hok]; have hB1 := zD hB0 hb1; have hs1 := hs0.below hb1)
    | (go_at_call 77; refine (zBt _ l _ hs1 (by omega)).mono ?_; rintro e w2 ⟨v2, rfl, ho2, hb2⟩; have hB2 := zD hB1 hb2))
   go_ret2
   rw [hr.out]
   exact ⟨_, rfl, ho2.mono hB1.size, hB2⟩
  ·have hd : decide ((200 : Int) ≤ (l.length : Int)) = false := by simp; omega
   cases hm : m.ok
   ·have hr : Hid (r = (l, false)) := show _ = _ by rw [HR.out]; simp [xL, hok, hm]
    go_enter Tryz.func16, Tryz.ntmps16
    go_wp2_with (first
     | (refine xD rfl rfl hvv ?_; intro w0 r0 hB0; have hs0 := h.below hB0)
     | (go_at_call 21; refine (xU _ l _ hs0).mono ?_; rintro e w1 ⟨rfl, hb1⟩; rw [hok]; have hB1 := zD hB0 hb1; have hs1 := hs0.below hb1; have r1 := r0.below hb1)
     | (refine zKp rfl rfl rfl r1 ?_)
     | (go_at_call 76; refine (zAh m _).mono ?_; rw [hm]; rintro e w2 ⟨rfl, hb2⟩; have hB2 := zD hB1 hb2; have hs2 := hs1.below hb2)
     | (go_at_call 77; refine (zBt _ l _ hs2 (by omega)).mono ?_; rintro e w3 ⟨v3, rfl, ho3, hb3⟩; have hB3 := zD hB2 hb3))
    go_ret2
    rw [hr.out]
    exact ⟨_, rfl, ho3.mono hB2.size, hB3⟩
   ·have hr : Hid (r = (zBc l m, true)) := show _ = _ by rw [HR.out]; simp [xL, hok, hm, h2]
    go_enter Tryz.func16, Tryz.ntmps16
    go_wp2_with (first
     | (refine xD rfl rfl hvv ?_; intro w0 r0 hB0; have hs0 := h.below hB0)
     | (go_at_call 21; refine (xU _ l _ hs0).mono ?_; rintro e w1 ⟨rfl, hb1⟩; rw [hok]; have hB1 := zD hB0 hb1; have hs1 := hs0.below hb1; have r1 := r0.below hb1)
     | (refine zKp rfl rfl rfl r1 ?_)
     | (go_at_call 76; refine (zAh m _).mono ?_; rw [hm]; rintro e w2 ⟨rfl, hb2⟩; have hB2 := zD hB1 hb2; have hs2 := hs1.below hb2; have r2 := r1.below hb2)
     | (refine zFk rfl rfl rfl r2 ?_)
     | (go_at_call 78; refine (zGr _ l m _ hs2 (by omega)).mono ?_; rintro e w3 ⟨v3, rfl, ho3, hb3⟩; have hB3 := zD hB2 hb3))
    go_ret2
    rw [hr.out]
    exact ⟨_, rfl, ho3.mono hB2.size, hB3⟩
end Go.Proofs.YtamldhflkfbdnaaGreatDoor.Mem
namespace Go.Proofs.YtamldhflkfbdnaaGreatDoor.Mem
open Go.ChangeShapes Go.WideShapes Go.RowKit Base Num Slc Rw Tmr Srl Rom RomOf Opl Reg
section
variable {base : Nat} {w : World} {x y v : Value} {m : Mc}

def Did (base : Nat) (w w' : World) (e : Ending) (x y : Value) (r : Mc × Int) : Prop := e = .returned (.tuple #[r.1.val x y, .int .i64 r.2]) ∧ Ow base w' x y r.1 ∧ But y w w'
set_option maxRecDepth 100000 in
set_option maxHeartbeats 1000000 in
theorem zVw (hv : v = m.val x y) (h : Ow base w x y m) (hok : m.ok = true) (n : Int) (hn : bok n = true) :
  Calls Tryz.prog 222 #[v, .int .i64 0, .int .i64 n] w fun e w' => Did base w w' e x y (m.does n 0) := by
 go_enter Tryz.func222, Tryz.ntmps222
 go_wp2_with (first
  | (refine zP rfl rfl hv ?_; intro w0 r0 hB0)
  | (refine zR rfl rfl ?_; intro w1 z1 hB1; have r1 := r0.below hB1; have hB2 := hB0.trans (hB1.mono hB0.size); have l0 := r0.lt; have lz := z1.lt; have h1 := h.below hB2)
  | (refine zI rfl rfl rfl r1 ?_)
  | (refine zL rfl rfl rfl rfl z1 (zB h.hx) (zB h.hy) ?_; intro w6 r6 o6 s6))
 refine qA rfl rfl r6 rfl rfl ?_
 have hB6 := zA hB2 o6 (by omega)
 exact ⟨rfl, (h.below hB6).as rfl rfl, .of hB6⟩
set_option maxRecDepth 100000 in
set_option maxHeartbeats 1000000 in
theorem zVv (hv : v = m.val x y) (h : Ow base w x y m) (hok : m.ok = true) (n : Int) (hn : bok n = true) :
  Calls Tryz.prog 222 #[v, .int .i64 1, .int .i64 n] w fun e w' => Did base w w' e x y (m.does n 1) := by
 go_enter Tryz.func222, Tryz.ntmps222
 go_wp2_with (first
  | (refine zP rfl rfl hv ?_; intro w0 r0 hB0)
  | (refine zR rfl rfl ?_; intro w1 z1 hB1; have r1 := r0.below hB1; have hB2 := hB0.trans (hB1.mono hB0.size); have l0 := r0.lt; have lz := z1.lt; have h1 := h.below hB2)
  | (refine qV (m' := (m.does n 1).1) rfl rfl rfl rfl r1 rfl rfl ?_; intro w2 r2 o2 s2; have z2 := z1.onto o2 (by omega); have hB3 := zA hB2 o2 (by omega))
  | (refine zI rfl rfl rfl r2 ?_)
  | (refine zL rfl rfl rfl rfl z2 (zB h.hx) (zB h.hy) ?_; intro w6 r6 o6 s6))
 refine qA rfl rfl r6 rfl rfl ?_
 have hB6 := zA hB3 o6 (by omega)
 exact ⟨rfl, (h.below hB6).as rfl rfl, .of hB6⟩
set_option maxRecDepth 100000 in
set_option maxHeartbeats 1000000 in
theorem zVu (hv : v = m.val x y) (h : Ow base w x y m) (hok : m.ok = true) (n : Int) (hn : bok n = true) :
  Calls Tryz.prog 222 #[v, .int .i64 2, .int .i64 n] w fun e w' => Did base w w' e x y (m.does n 2) := by
 go_enter Tryz.func222, Tryz.ntmps222
 go_wp2_with (first
  | (refine zP rfl rfl hv ?_; intro w0 r0 hB0)
  | (refine zR rfl rfl ?_; intro w1 z1 hB1; have r1 := r0.below hB1; have hB2 := hB0.trans (hB1.mono hB0.size); have l0 := r0.lt; have lz := z1.lt; have h1 := h.below hB2)
  | (refine qV (m' := (m.does n 2).1) rfl rfl rfl rfl r1 rfl rfl ?_; intro w2 r2 o2 s2; have z2 := z1.onto o2 (by omega); have hB3 := zA hB2 o2 (by omega))
  | (refine zI rfl rfl rfl r2 ?_)
  | (refine zL rfl rfl rfl rfl z2 (zB h.hx) (zB h.hy) ?_; intro w6 r6 o6 s6))
 refine qA rfl rfl r6 rfl rfl ?_
 have hB6 := zA hB3 o6 (by omega)
 exact ⟨rfl, (h.below hB6).as rfl rfl, .of hB6⟩
set_option maxRecDepth 100000 in
set_option maxHeartbeats 1000000 in
theorem zVt (hv : v = m.val x y) (h : Ow base w x y m) (hok : m.ok = true) (n : Int) (hn : bok n = true) :
  Calls Tryz.prog 222 #[v, .int .i64 3, .int .i64 n] w fun e w' => Did base w w' e x y (m.does n 3) := by
 go_enter Tryz.func222, Tryz.ntmps222
 go_wp2_with (first
  | (refine zP rfl rfl hv ?_; intro w0 r0 hB0)
  | (refine zR rfl rfl ?_; intro w1 z1 hB1; have r1 := r0.below hB1; have hB2 := hB0.trans (hB1.mono hB0.size); have l0 := r0.lt; have lz := z1.lt; have h1 := h.below hB2; have kc := (cw r1).b)
  | (refine qV (m' := (m.does n 3).1) rfl rfl rfl rfl r1 rfl rfl ?_; intro w2 r2 o2 s2; have z2 := z1.onto o2 (by omega); have hB3 := zA hB2 o2 (by omega))
  | (refine zI rfl rfl rfl r2 ?_)
  | (refine zL rfl rfl rfl rfl z2 (zB h.hx) (zB h.hy) ?_; intro w6 r6 o6 s6))
 refine qA rfl rfl r6 rfl rfl ?_
 have hB6 := zA hB3 o6 (by omega)
 exact ⟨rfl, (h.below hB6).as rfl rfl, .of hB6⟩
set_option maxRecDepth 100000 in
set_option maxHeartbeats 1000000 in
theorem zVs (hv : v = m.val x y) (h : Ow base w x y m) (hok : m.ok = true) (n : Int) (hn : bok n = true) :
  Calls Tryz.prog 222 #[v, .int .i64 4, .int .i64 n] w fun e w' => Did base w w' e x y (m.does n 4) := by
 go_enter Tryz.func222, Tryz.ntmps222
 go_wp2_with (first
  | (refine zP rfl rfl hv ?_; intro w0 r0 hB0)
  | (refine zR rfl rfl ?_; intro w1 z1 hB1; have r1 := r0.below hB1; have hB2 := hB0.trans (hB1.mono hB0.size); have l0 := r0.lt; have lz := z1.lt; have h1 := h.below hB2; have kc := (cw r1).a)
  | (refine qV (m' := (m.does n 4).1) rfl rfl rfl rfl r1 rfl rfl ?_; intro w2 r2 o2 s2; have z2 := z1.onto o2 (by omega); have hB3 := zA hB2 o2 (by omega))
  | (refine zI rfl rfl rfl r2 ?_)
  | (refine zL rfl rfl rfl rfl z2 (zB h.hx) (zB h.hy) ?_; intro w6 r6 o6 s6))
 refine qA rfl rfl r6 rfl rfl ?_
 have hB6 := zA hB3 o6 (by omega)
 exact ⟨rfl, (h.below hB6).as rfl rfl, .of hB6⟩
set_option maxRecDepth 100000 in
set_option maxHeartbeats 1000000 in
theorem zT2 (hv : v = m.val x y) (h : Ow base w x y m) (hok : m.ok = true) (n : Int) (hn : bok n = true) :
  Calls Tryz.prog 222 #[v, .int .i64 27, .int .i64 n] w fun e w' => Did base w w' e x y (m.does n 27) := by
 go_enter Tryz.func222, Tryz.ntmps222
 go_wp2_with (first
  | (refine zP rfl rfl hv ?_; intro w0 r0 hB0)
  | (refine zR rfl rfl ?_; intro w1 z1 hB1; have r1 := r0.below hB1; have hB2 := hB0.trans (hB1.mono hB0.size); have l0 := r0.lt; have lz := z1.lt; have h1 := h.below hB2)
  | (refine xY (m' := (m.does n 27).1) rfl rfl rfl rfl r1 rfl rfl ?_; intro w2 r2 o2 s2; have z2 := z1.onto o2 (by omega); have hB3 := zA hB2 o2 (by omega))
  | (refine zI rfl rfl rfl r2 ?_)
  | (refine zL rfl rfl rfl rfl z2 (zB h.hx) (zB h.hy) ?_; intro w6 r6 o6 s6))
 refine qA rfl rfl r6 rfl rfl ?_
 have hB6 := zA hB3 o6 (by omega)
 exact ⟨rfl, (h.below hB6).as rfl rfl, .of hB6⟩
set_option maxRecDepth 100000 in
set_option maxHeartbeats 1000000 in
theorem zT1 (hv : v = m.val x y) (h : Ow base w x y m) (hok : m.ok = true) (n : Int) (hn : bok n = true) :
  Calls Tryz.prog 222 #[v, .int .i64 28, .int .i64 n] w fun e w' => Did base w w' e x y (m.does n 28) := by
 go_enter Tryz.func222, Tryz.ntmps222
 go_wp2_with (first
  | (refine zP rfl rfl hv ?_; intro w0 r0 hB0)
  | (refine zR rfl rfl ?_; intro w1 z1 hB1; have r1 := r0.below hB1; have hB2 := hB0.trans (hB1.mono hB0.size); have l0 := r0.lt; have lz := z1.lt; have h1 := h.below hB2)
  | (refine xY (m' := (m.does n 28).1) rfl rfl rfl rfl r1 rfl rfl ?_; intro w2 r2 o2 s2; have z2 := z1.onto o2 (by omega); have hB3 := zA hB2 o2 (by omega))
  | (refine zI rfl rfl rfl r2 ?_)
  | (refine zL rfl rfl rfl rfl z2 (zB h.hx) (zB h.hy) ?_; intro w6 r6 o6 s6))
 refine qA rfl rfl r6 rfl rfl ?_
 have hB6 := zA hB3 o6 (by omega)
 exact ⟨rfl, (h.below hB6).as rfl rfl, .of hB6⟩
set_option maxRecDepth 100000 in
set_option maxHeartbeats 1000000 in
theorem zT0 (hv : v = m.val x y) (h : Ow base w x y m) (hok : m.ok = true) (n : Int) (hn : bok n = true) :
  Calls Tryz.prog 222 #[v, .int .i64 30, .int .i64 n] w fun e w' => Did base w w' e x y (m.does n 30) := by
 go_enter Tryz.func222, Tryz.ntmps222
 go_wp2_with (first
  | (refine zP rfl rfl hv ?_; intro w0 r0 hB0)
  | (refine zR rfl rfl ?_; intro w1 z1 hB1; have r1 := r0.below hB1; have hB2 := hB0.trans (hB1.mono hB0.size); have l0 := r0.lt; have lz := z1.lt; have h1 := h.below hB2)
  | (refine xY (m' := (m.does n 30).1) rfl rfl rfl rfl r1 rfl rfl ?_; intro w2 r2 o2 s2; have z2 := z1.onto o2 (by omega); have hB3 := zA hB2 o2 (by omega))
  | (refine zI rfl rfl rfl r2 ?_)
  | (refine zL rfl rfl rfl rfl z2 (zB h.hx) (zB h.hy) ?_; intro w6 r6 o6 s6))
 refine qA rfl rfl r6 rfl rfl ?_
 have hB6 := zA hB3 o6 (by omega)
 exact ⟨rfl, (h.below hB6).as rfl rfl, .of hB6⟩
set_option maxRecDepth 100000 in
set_option maxHeartbeats 1000000 in
theorem zVr (hv : v = m.val x y) (h : Ow base w x y m) (hok : m.ok = true) (n : Int) (hn : bok n = true) :
  Calls Tryz.prog 222 #[v, .int .i64 5, .int .i64 n] w fun e w' => Did base w w' e x y (m.does n 5) := by
 go_enter Tryz.func222, Tryz.ntmps222
 go_wp2_with (first
  | (refine zP rfl rfl hv ?_; intro w0 r0 hB0)
  | (refine zR rfl rfl ?_; intro w1 z1 hB1; have r1 := r0.below hB1; have hB2 := hB0.trans (hB1.mono hB0.size); have l0 := r0.lt; have lz := z1.lt; have h1 := h.below hB2)
  | (refine zI rfl rfl rfl r1 ?_)
  | (go_at_call 220; refine (zAz _ m _ _ h1.sl (Mc.right hok) (xI.1 hn)).mono ?_; rintro e w2 ⟨rfl, hb2⟩; have hB3 := hB2.trans (hb2.mono hB2.size); have z2 := z1.below hb2; have r2 := r1.below hb2)
  | (refine qV (m' := (m.does n 5).1) rfl rfl rfl rfl r2 rfl rfl ?_; intro w3 r3 o3 s3; have z3 := z2.onto o3 (by omega); have hB4 := zA hB3 o3 (by omega))
  | (refine zI rfl rfl rfl r3 ?_)
  | (refine zL rfl rfl rfl rfl z3 (zB h.hx) (zB h.hy) ?_; intro w6 r6 o6 s6))
 refine qA rfl rfl r6 rfl rfl ?_
 have hB6 := zA hB4 o6 (by omega)
 exact ⟨rfl, (h.below hB6).as rfl rfl, .of hB6⟩
set_option maxRecDepth 100000 in
set_option maxHeartbeats 1000000 in
theorem zVp (hv : v = m.val x y) (h : Ow base w x y m) (hok : m.ok = true) (n : Int) (hn : bok n = true) :
  Calls Tryz.prog 222 #[v, .int .i64 7, .int .i64 n] w fun e w' => Did base w w' e x y (m.does n 7) := by
 go_enter Tryz.func222, Tryz.ntmps222
 go_wp2_with (first
  | (refine zP rfl rfl hv ?_; intro w0 r0 hB0)
  | (refine zR rfl rfl ?_; intro w1 z1 hB1; have r1 := r0.below hB1; have hB2 := hB0.trans (hB1.mono hB0.size); have l0 := r0.lt; have lz := z1.lt; have h1 := h.below hB2; have kc := (cw r1).b)
  | (refine zI rfl rfl rfl r1 ?_)
  | (go_at_call 220; refine (zAz _ m _ _ h1.sl (Mc.right hok) (xI.1 (okm.1 hok).b)).mono ?_; rintro e w2 ⟨rfl, hb2⟩; have hB3 := hB2.trans (hb2.mono hB2.size); have z2 := z1.below hb2; have r2 := r1.below hb2)
  | (refine qV (m' := (m.does n 7).1) rfl rfl rfl rfl r2 rfl rfl ?_; intro w3 r3 o3 s3; have z3 := z2.onto o3 (by omega); have hB4 := zA hB3 o3 (by omega))
  | (refine zI rfl rfl rfl r3 ?_)
  | (refine zL rfl rfl rfl rfl z3 (zB h.hx) (zB h.hy) ?_; intro w6 r6 o6 s6))
 refine qA rfl rfl r6 rfl rfl ?_
 have hB6 := zA hB4 o6 (by omega)
 exact ⟨rfl, (h.below hB6).as rfl rfl, .of hB6⟩
set_option maxRecDepth 100000 in
set_option maxHeartbeats 1000000 in
theorem zVq (hv : v = m.val x y) (h : Ow base w x y m) (hok : m.ok = true) (n : Int) (hn : bok n = true) :
  Calls Tryz.prog 222 #[v, .int .i64 6, .int .i64 n] w fun e w' => Did base w w' e x y (m.does n 6) := by
 obtain ⟨g, hg, hgl⟩ := qZ h.hy hok
 go_enter Tryz.func222, Tryz.ntmps222
 go_wp2_with (first
  | (refine zP rfl rfl hv ?_; intro w0 r0 hB0)
  | (refine zR rfl rfl ?_; intro w1 z1 hB1; have r1 := r0.below hB1; have hB2 := hB0.trans (hB1.mono hB0.size); have l0 := r0.lt; have lz := z1.lt; have h1 := h.below hB2; have ka := (cw r1).a)
  | (refine zI rfl rfl rfl r1 ?_)
  | (go_at_call 291; refine (zE1 rfl h1 hok _ _ hn (okm.1 hok).a).mono ?_; rintro e w3 ⟨rfl, h3, hb3⟩; have z3 := hb3.row hg z1 (by omega))
  | (refine zL rfl rfl rfl rfl z3 (zB h.hx) (zB h.hy) ?_; intro w6 r6 o6 s6))
 refine qA rfl rfl r6 rfl rfl ?_
 exact ⟨rfl, h3.at o6 (fun e => by have := (h.hx.lt _ e).2; omega) (fun e => by have := (h.hy.lt _ e).2; omega), ((But.of hB2).trans hb3).new o6 (by omega)⟩
set_option maxRecDepth 100000 in
set_option maxHeartbeats 1000000 in
theorem zVo (hv : v = m.val x y) (h : Ow base w x y m) (hok : m.ok = true) (n : Int) (hn : bok n = true) :
  Calls Tryz.prog 222 #[v, .int .i64 8, .int .i64 n] w fun e w' => Did base w w' e x y (m.does n 8) := by
 obtain ⟨g, hg, hgl⟩ := qZ h.hy hok
 go_enter Tryz.func222, Tryz.ntmps222
 go_wp2_with (first
  | (refine zP rfl rfl hv ?_; intro w0 r0 hB0)
  | (refine zR rfl rfl ?_; intro w1 z1 hB1; have r1 := r0.below hB1; have hB2 := hB0.trans (hB1.mono hB0.size); have l0 := r0.lt; have lz := z1.lt; have h1 := h.below hB2; have ka := (cw r1).a; have kb := (cw r1).b)
  | (refine zI rfl rfl rfl r1 ?_)
  | (go_at_call 291; refine (zE1 rfl h1 hok _ _ (okm.1 hok).b (okm.1 hok).a).mono ?_; rintro e w3 ⟨rfl, h3, hb3⟩; have z3 := hb3.row hg z1 (by omega))
  | (refine zL rfl rfl rfl rfl z3 (zB h.hx) (zB h.hy) ?_; intro w6 r6 o6 s6))
 refine qA rfl rfl r6 rfl rfl ?_
 exact ⟨rfl, h3.at o6 (fun e => by have := (h.hx.lt _ e).2; omega) (fun e => by have := (h.hy.lt _ e).2; omega), ((But.of hB2).trans hb3).new o6 (by omega)⟩
set_option maxRecDepth 100000 in
set_option maxHeartbeats 1000000 in
theorem zT4 (hv : v = m.val x y) (h : Ow base w x y m) (hok : m.ok = true) (n : Int) (hn : bok n = true) :
  Calls Tryz.prog 222 #[v, .int .i64 25, .int .i64 n] w fun e w' => Did base w w' e x y (m.does n 25) := by
 obtain ⟨g, hg, hgl⟩ := qZ h.hy hok
 go_enter Tryz.func222, Tryz.ntmps222
 go_wp2_with (first
  | (refine zP rfl rfl hv ?_; intro w0 r0 hB0)
  | (refine zR rfl rfl ?_; intro w1 z1 hB1; have r1 := r0.below hB1; have hB2 := hB0.trans (hB1.mono hB0.size); have l0 := r0.lt; have lz := z1.lt; have h1 := h.below hB2; have ka := (cw r1).a)
  | (refine zI rfl rfl rfl r1 ?_)
  | (go_at_call 219; refine (zBu rfl h1 hok _ (okm.1 hok).a).mono ?_; rintro e w3 ⟨rfl, h3, hb3⟩; have z3 := hb3.row hg z1 (by omega))
  | (refine zL rfl rfl rfl rfl z3 (zB h.hx) (zB h.hy) ?_; intro w6 r6 o6 s6))
 refine qA rfl rfl r6 rfl rfl ?_
 exact ⟨rfl, h3.at o6 (fun e => by have := (h.hx.lt _ e).2; omega) (fun e => by have := (h.hy.lt _ e).2; omega), ((But.of hB2).trans hb3).new o6 (by omega)⟩
set_option maxRecDepth 100000 in
set_option maxHeartbeats 1000000 in
theorem zVn (hv : v = m.val x y) (h : Ow base w x y m) (hok : m.ok = true) (n : Int) (hn : bok n = true) :
  Calls Tryz.prog 222 #[v, .int .i64 9, .int .i64 n] w fun e w' => Did base w w' e x y (m.does n 9) := by
 go_enter Tryz.func222, Tryz.ntmps222
 go_wp2_with (first
  | (refine zP rfl rfl hv ?_; intro w0 r0 hB0)
  | (refine zR rfl rfl ?_; intro w1 z1 hB1; have r1 := r0.below hB1; have hB2 := hB0.trans (hB1.mono hB0.size); have l0 := r0.lt; have lz := z1.lt; have h1 := h.below hB2)
  | (refine zI rfl rfl rfl r1 ?_)
  | (go_at_call 294; refine (zUg rfl h1 n).mono ?_; rintro e w2 ⟨rfl, hb2⟩; have hB3 := hB2.trans (hb2.mono hB2.size); have z2 := z1.below hb2; have r2 := r1.below hb2)
  | (refine zL rfl rfl rfl rfl r2 (zB h.hx) (zB h.hy) ?_; intro w3 r3 o3 s3; have z3 := z2.onto o3 (by omega); have hB4 := zA hB3 o3 (by omega))
  | (refine zI rfl rfl rfl r3 ?_)
  | (refine zL rfl rfl rfl rfl z3 (zB h.hx) (zB h.hy) ?_; intro w6 r6 o6 s6))
 refine qA rfl rfl r6 rfl rfl ?_
 have hB6 := zA hB4 o6 (by omega)
 exact ⟨rfl, (h.below hB6).as rfl rfl, .of hB6⟩
set_option maxRecDepth 100000 in
set_option maxHeartbeats 1000000 in
theorem zUf (hv : v = m.val x y) (h : Ow base w x y m) (hok : m.ok = true) (n : Int) (hn : bok n = true) :
  Calls Tryz.prog 222 #[v, .int .i64 10, .int .i64 n] w fun e w' => Did base w w' e x y (m.does n 10) := by
 go_enter Tryz.func222, Tryz.ntmps222
 go_wp2_with (first
  | (refine zP rfl rfl hv ?_; intro w0 r0 hB0)
  | (refine zR rfl rfl ?_; intro w1 z1 hB1; have r1 := r0.below hB1; have hB2 := hB0.trans (hB1.mono hB0.size); have l0 := r0.lt; have lz := z1.lt; have h1 := h.below hB2)
  | (refine zI rfl rfl rfl r1 ?_)
  | (go_at_call 294; refine (zRy rfl h1 n).mono ?_; rintro e w2 ⟨rfl, hb2⟩; have hB3 := hB2.trans (hb2.mono hB2.size); have z2 := z1.below hb2; have r2 := r1.below hb2)
  | (refine zL rfl rfl rfl rfl r2 (zB h.hx) (zB h.hy) ?_; intro w3 r3 o3 s3; have z3 := z2.onto o3 (by omega); have hB4 := zA hB3 o3 (by omega))
  | (refine zI rfl rfl rfl r3 ?_)
  | (refine zL rfl rfl rfl rfl z3 (zB h.hx) (zB h.hy) ?_; intro w6 r6 o6 s6))
 refine qA rfl rfl r6 rfl rfl ?_
 have hB6 := zA hB4 o6 (by omega)
 exact ⟨rfl, (h.below hB6).as rfl rfl, .of hB6⟩
set_option maxRecDepth 100000 in
set_option maxHeartbeats 1000000 in
theorem zUe (hv : v = m.val x y) (h : Ow base w x y m) (hok : m.ok = true) (n : Int) (hn : bok n = true) :
  Calls Tryz.prog 222 #[v, .int .i64 11, .int .i64 n] w fun e w' => Did base w w' e x y (m.does n 11) := by
 go_enter Tryz.func222, Tryz.ntmps222
 go_wp2_with (first
  | (refine zP rfl rfl hv ?_; intro w0 r0 hB0)
  | (refine zR rfl rfl ?_; intro w1 z1 hB1; have r1 := r0.below hB1; have hB2 := hB0.trans (hB1.mono hB0.size); have l0 := r0.lt; have lz := z1.lt; have h1 := h.below hB2)
  | (refine zI rfl rfl rfl r1 ?_)
  | (go_at_call 294; refine (zRx rfl h1 n).mono ?_; rintro e w2 ⟨rfl, hb2⟩; have hB3 := hB2.trans (hb2.mono hB2.size); have z2 := z1.below hb2; have r2 := r1.below hb2)
  | (refine zL rfl rfl rfl rfl r2 (zB h.hx) (zB h.hy) ?_; intro w3 r3 o3 s3; have z3 := z2.onto o3 (by omega); have hB4 := zA hB3 o3 (by omega))
  | (refine zI rfl rfl rfl r3 ?_)
  | (refine zL rfl rfl rfl rfl z3 (zB h.hx) (zB h.hy) ?_; intro w6 r6 o6 s6))
 refine qA rfl rfl r6 rfl rfl ?_
 have hB6 := zA hB4 o6 (by omega)
 exact ⟨rfl, (h.below hB6).as rfl rfl, .of hB6⟩
set_option maxRecDepth 100000 in
set_option maxHeartbeats 1000000 in
theorem zUd (hv : v = m.val x y) (h : Ow base w x y m) (hok : m.ok = true) (n : Int) (hn : bok n = true) :
  Calls Tryz.prog 222 #[v, .int .i64 12, .int .i64 n] w fun e w' => Did base w w' e x y (m.does n 12) := by
 go_enter Tryz.func222, Tryz.ntmps222
 go_wp2_with (first
  | (refine zP rfl rfl hv ?_; intro w0 r0 hB0)
  | (refine zR rfl rfl ?_; intro w1 z1 hB1; have r1 := r0.below hB1; have hB2 := hB0.trans (hB1.mono hB0.size); have l0 := r0.lt; have lz := z1.lt; have h1 := h.below hB2)
  | (refine zI rfl rfl rfl r1 ?_)
  | (go_at_call 294; refine (zRw rfl h1 n).mono ?_; rintro e w2 ⟨rfl, hb2⟩; have hB3 := hB2.trans (hb2.mono hB2.size); have z2 := z1.below hb2; have r2 := r1.below hb2)
  | (refine zL rfl rfl rfl rfl r2 (zB h.hx) (zB h.hy) ?_; intro w3 r3 o3 s3; have z3 := z2.onto o3 (by omega); have hB4 := zA hB3 o3 (by omega))
  | (refine zI rfl rfl rfl r3 ?_)
  | (refine zL rfl rfl rfl rfl z3 (zB h.hx) (zB h.hy) ?_; intro w6 r6 o6 s6))
 refine qA rfl rfl r6 rfl rfl ?_
 have hB6 := zA hB4 o6 (by omega)
 exact ⟨rfl, (h.below hB6).as rfl rfl, .of hB6⟩
set_option maxRecDepth 100000 in
set_option maxHeartbeats 1000000 in
theorem zUc (hv : v = m.val x y) (h : Ow base w x y m) (hok : m.ok = true) (n : Int) (hn : bok n = true) :
  Calls Tryz.prog 222 #[v, .int .i64 13, .int .i64 n] w fun e w' => Did base w w' e x y (m.does n 13) := by
 go_enter Tryz.func222, Tryz.ntmps222
 go_wp2_with (first
  | (refine zP rfl rfl hv ?_; intro w0 r0 hB0)
  | (refine zR rfl rfl ?_; intro w1 z1 hB1; have r1 := r0.below hB1; have hB2 := hB0.trans (hB1.mono hB0.size); have l0 := r0.lt; have lz := z1.lt; have h1 := h.below hB2)
  | (refine zI rfl rfl rfl r1 ?_)
  | (go_at_call 294; refine (zRv rfl h1 n).mono ?_; rintro e w2 ⟨rfl, hb2⟩; have hB3 := hB2.trans (hb2.mono hB2.size); have z2 := z1.below hb2; have r2 := r1.below hb2)
  | (refine zL rfl rfl rfl rfl r2 (zB h.hx) (zB h.hy) ?_; intro w3 r3 o3 s3; have z3 := z2.onto o3 (by omega); have hB4 := zA hB3 o3 (by omega))
  | (refine zI rfl rfl rfl r3 ?_)
  | (refine zL rfl rfl rfl rfl z3 (zB h.hx) (zB h.hy) ?_; intro w6 r6 o6 s6))
 refine qA rfl rfl r6 rfl rfl ?_
 have hB6 := zA hB4 o6 (by omega)
 exact ⟨rfl, (h.below hB6).as rfl rfl, .of hB6⟩
set_option maxRecDepth 100000 in
set_option maxHeartbeats 1000000 in
theorem zUb (hv : v = m.val x y) (h : Ow base w x y m) (hok : m.ok = true) (n : Int) (hn : bok n = true) :
  Calls Tryz.prog 222 #[v, .int .i64 14, .int .i64 n] w fun e w' => Did base w w' e x y (m.does n 14) := by
 go_enter Tryz.func222, Tryz.ntmps222
 go_wp2_with (first
  | (refine zP rfl rfl hv ?_; intro w0 r0 hB0)
  | (refine zR rfl rfl ?_; intro w1 z1 hB1; have r1 := r0.below hB1; have hB2 := hB0.trans (hB1.mono hB0.size); have l0 := r0.lt; have lz := z1.lt; have h1 := h.below hB2)
  | (refine zI rfl rfl rfl r1 ?_)
  | (go_at_call 294; refine (zRu rfl h1 n).mono ?_; rintro e w2 ⟨rfl, hb2⟩; have hB3 := hB2.trans (hb2.mono hB2.size); have z2 := z1.below hb2; have r2 := r1.below hb2)
  | (refine zL rfl rfl rfl rfl r2 (zB h.hx) (zB h.hy) ?_; intro w3 r3 o3 s3; have z3 := z2.onto o3 (by omega); have hB4 := zA hB3 o3 (by omega))
  | (refine zI rfl rfl rfl r3 ?_)
  | (refine zL rfl rfl rfl rfl z3 (zB h.hx) (zB h.hy) ?_; intro w6 r6 o6 s6))
 refine qA rfl rfl r6 rfl rfl ?_
 have hB6 := zA hB4 o6 (by omega)
 exact ⟨rfl, (h.below hB6).as rfl rfl, .of hB6⟩
set_option maxRecDepth 100000 in
set_option maxHeartbeats 1000000 in
theorem zUa (hv : v = m.val x y) (h : Ow base w x y m) (hok : m.ok = true) (n : Int) (hn : bok n = true) :
  Calls Tryz.prog 222 #[v, .int .i64 15, .int .i64 n] w fun e w' => Did base w w' e x y (m.does n 15) := by
 go_enter Tryz.func222, Tryz.ntmps222
 go_wp2_with (first
  | (refine zP rfl rfl hv ?_; intro w0 r0 hB0)
  | (refine zR rfl rfl ?_; intro w1 z1 hB1; have r1 := r0.below hB1; have hB2 := hB0.trans (hB1.mono hB0.size); have l0 := r0.lt; have lz := z1.lt; have h1 := h.below hB2)
  | (refine zI rfl rfl rfl r1 ?_)
  | (go_at_call 294; refine (zRt rfl h1 n).mono ?_; rintro e w2 ⟨rfl, hb2⟩; have hB3 := hB2.trans (hb2.mono hB2.size); have z2 := z1.below hb2; have r2 := r1.below hb2)
  | (refine zL rfl rfl rfl rfl r2 (zB h.hx) (zB h.hy) ?_; intro w3 r3 o3 s3; have z3 := z2.onto o3 (by omega); have hB4 := zA hB3 o3 (by omega))
  | (refine zI rfl rfl rfl r3 ?_)
  | (refine zL rfl rfl rfl rfl z3 (zB h.hx) (zB h.hy) ?_; intro w6 r6 o6 s6))
 refine qA rfl rfl r6 rfl rfl ?_
 have hB6 := zA hB4 o6 (by omega)
 exact ⟨rfl, (h.below hB6).as rfl rfl, .of hB6⟩
set_option maxRecDepth 100000 in
set_option maxHeartbeats 1000000 in
theorem zT9 (hv : v = m.val x y) (h : Ow base w x y m) (hok : m.ok = true) (n : Int) (hn : bok n = true) :
  Calls Tryz.prog 222 #[v, .int .i64 16, .int .i64 n] w fun e w' => Did base w w' e x y (m.does n 16) := by
 go_enter Tryz.func222, Tryz.ntmps222
 go_wp2_with (first
  | (refine zP rfl rfl hv ?_; intro w0 r0 hB0)
  | (refine zR rfl rfl ?_; intro w1 z1 hB1; have r1 := r0.below hB1; have hB2 := hB0.trans (hB1.mono hB0.size); have l0 := r0.lt; have lz := z1.lt; have h1 := h.below hB2)
  | (refine zI rfl rfl rfl r1 ?_)
  | (go_at_call 294; refine (zRs rfl h1 n).mono ?_; rintro e w2 ⟨rfl, hb2⟩; have hB3 := hB2.trans (hb2.mono hB2.size); have z2 := z1.below hb2; have r2 := r1.below hb2)
  | (refine zL rfl rfl rfl rfl r2 (zB h.hx) (zB h.hy) ?_; intro w3 r3 o3 s3; have z3 := z2.onto o3 (by omega); have hB4 := zA hB3 o3 (by omega))
  | (refine zI rfl rfl rfl r3 ?_)
  | (refine zL rfl rfl rfl rfl z3 (zB h.hx) (zB h.hy) ?_; intro w6 r6 o6 s6))
 refine qA rfl rfl r6 rfl rfl ?_
 have hB6 := zA hB4 o6 (by omega)
 exact ⟨rfl, (h.below hB6).as rfl rfl, .of hB6⟩
set_option maxRecDepth 100000 in
set_option maxHeartbeats 1000000 in
theorem zT8 (hv : v = m.val x y) (h : Ow base w x y m) (hok : m.ok = true) (n : Int) (hn : bok n = true) :
  Calls Tryz.prog 222 #[v, .int .i64 17, .int .i64 n] w fun e w' => Did base w w' e x y (m.does n 17) := by
 go_enter Tryz.func222, Tryz.ntmps222
 go_wp2_with (first
  | (refine zP rfl rfl hv ?_; intro w0 r0 hB0)
  | (refine zR rfl rfl ?_; intro w1 z1 hB1; have r1 := r0.below hB1; have hB2 := hB0.trans (hB1.mono hB0.size); have l0 := r0.lt; have lz := z1.lt; have h1 := h.below hB2)
  | (refine zI rfl rfl rfl r1 ?_)
  | (go_at_call 295; refine (zMe rfl h1).mono ?_; rintro e w2 ⟨rfl, hb2⟩; have hB3 := hB2.trans (hb2.mono hB2.size); have z2 := z1.below hb2; have r2 := r1.below hb2)
  | (refine zL rfl rfl rfl rfl r2 (zB h.hx) (zB h.hy) ?_; intro w3 r3 o3 s3; have z3 := z2.onto o3 (by omega); have hB4 := zA hB3 o3 (by omega))
  | (refine zI rfl rfl rfl r3 ?_)
  | (refine zL rfl rfl rfl rfl z3 (zB h.hx) (zB h.hy) ?_; intro w6 r6 o6 s6))
 refine qA rfl rfl r6 rfl rfl ?_
 have hB6 := zA hB4 o6 (by omega)
 exact ⟨rfl, (h.below hB6).as rfl rfl, .of hB6⟩
set_option maxRecDepth 100000 in
set_option maxHeartbeats 1000000 in
theorem zT7 (hv : v = m.val x y) (h : Ow base w x y m) (hok : m.ok = true) (n : Int) (hn : bok n = true) :
  Calls Tryz.prog 222 #[v, .int .i64 18, .int .i64 n] w fun e w' => Did base w w' e x y (m.does n 18) := by
 go_enter Tryz.func222, Tryz.ntmps222
 go_wp2_with (first
  | (refine zP rfl rfl hv ?_; intro w0 r0 hB0)
  | (refine zR rfl rfl ?_; intro w1 z1 hB1; have r1 := r0.below hB1; have hB2 := hB0.trans (hB1.mono hB0.size); have l0 := r0.lt; have lz := z1.lt; have h1 := h.below hB2)
  | (refine zI rfl rfl rfl r1 ?_)
  | (go_at_call 295; refine (zMd rfl h1).mono ?_; rintro e w2 ⟨rfl, hb2⟩; have hB3 := hB2.trans (hb2.mono hB2.size); have z2 := z1.below hb2; have r2 := r1.below hb2)
  | (refine zL rfl rfl rfl rfl r2 (zB h.hx) (zB h.hy) ?_; intro w3 r3 o3 s3; have z3 := z2.onto o3 (by omega); have hB4 := zA hB3 o3 (by omega))
  | (refine zI rfl rfl rfl r3 ?_)
  | (refine zL rfl rfl rfl rfl z3 (zB h.hx) (zB h.hy) ?_; intro w6 r6 o6 s6))
 refine qA rfl rfl r6 rfl rfl ?_
 have hB6 := zA hB4 o6 (by omega)
 exact ⟨rfl, (h.below hB6).as rfl rfl, .of hB6⟩
set_option maxRecDepth 100000 in
set_option maxHeartbeats 1000000 in
theorem zT6 (hv : v = m.val x y) (h : Ow base w x y m) (hok : m.ok = true) (n : Int) (hn : bok n = true) :
  Calls Tryz.prog 222 #[v, .int .i64 19, .int .i64 n] w fun e w' => Did base w w' e x y (m.does n 19) := by
 obtain ⟨g, hg, hgl⟩ := qZ h.hy hok
 go_enter Tryz.func222, Tryz.ntmps222
 go_wp2_with (first
  | (refine zP rfl rfl hv ?_; intro w0 r0 hB0)
  | (refine zR rfl rfl ?_; intro w1 z1 hB1; have r1 := r0.below hB1; have hB2 := hB0.trans (hB1.mono hB0.size); have l0 := r0.lt; have lz := z1.lt; have h1 := h.below hB2)
  | (refine zI rfl rfl rfl r1 ?_)
  | (go_at_call 296; refine (zPb rfl h1 hok _).mono ?_; rintro e w3 ⟨rfl, h3, hb3⟩; have z3 := hb3.row hg z1 (by omega))
  | (refine zL rfl rfl rfl rfl z3 (zB h.hx) (zB h.hy) ?_; intro w6 r6 o6 s6))
 refine qA rfl rfl r6 rfl rfl ?_
 exact ⟨rfl, h3.at o6 (fun e => by have := (h.hx.lt _ e).2; omega) (fun e => by have := (h.hy.lt _ e).2; omega), ((But.of hB2).trans hb3).new o6 (by omega)⟩
set_option maxRecDepth 100000 in
set_option maxHeartbeats 1000000 in
theorem zPl (hv : v = m.val x y) (h : Ow base w x y m) (hok : m.ok = true) (n : Int) (hn : bok n = true) (hc : m.z = true) :
  Calls Tryz.prog 222 #[v, .int .i64 20, .int .i64 n] w fun e w' => Did base w w' e x y (m.does n 20) := by
 obtain ⟨g, hg, hgl⟩ := qZ h.hy hok
 have HC : Hid (m.z = true) := hc
 clear hc
 go_enter Tryz.func222, Tryz.ntmps222
 go_wp2_with (first
  | (refine zP rfl rfl hv ?_; intro w0 r0 hB0)
  | (refine zR rfl rfl ?_; intro w1 z1 hB1; have r1 := r0.below hB1; have hB2 := hB0.trans (hB1.mono hB0.size); have l0 := r0.lt; have lz := z1.lt; have h1 := h.below hB2)
  | (refine zI rfl rfl rfl r1 ?_)
  | (go_at_call 296; refine (zMb rfl h1 hok _ HC.out).mono ?_; rintro e w3 ⟨rfl, h3, hb3⟩; have z3 := hb3.row hg z1 (by omega))
  | (refine zL rfl rfl rfl rfl z3 (zB h.hx) (zB h.hy) ?_; intro w6 r6 o6 s6))
 refine qA rfl rfl r6 rfl rfl ?_
 exact ⟨rfl, h3.at o6 (fun e => by have := (h.hx.lt _ e).2; omega) (fun e => by have := (h.hy.lt _ e).2; omega), ((But.of hB2).trans hb3).new o6 (by omega)⟩
set_option maxRecDepth 100000 in
set_option maxHeartbeats 1000000 in
theorem zPm (hv : v = m.val x y) (h : Ow base w x y m) (hok : m.ok = true) (n : Int) (hn : bok n = true) (hc : m.z = false) :
  Calls Tryz.prog 222 #[v, .int .i64 20, .int .i64 n] w fun e w' => Did base w w' e x y (m.does n 20) := by
 obtain ⟨g, hg, hgl⟩ := qZ h.hy hok
 have HC : Hid (m.z = false) := hc
 clear hc
 go_enter Tryz.func222, Tryz.ntmps222
 go_wp2_with (first
  | (refine zP rfl rfl hv ?_; intro w0 r0 hB0)
  | (refine zR rfl rfl ?_; intro w1 z1 hB1; have r1 := r0.below hB1; have hB2 := hB0.trans (hB1.mono hB0.size); have l0 := r0.lt; have lz := z1.lt; have h1 := h.below hB2)
  | (refine zI rfl rfl rfl r1 ?_)
  | (go_at_call 296; refine (zMc rfl h1 hok _ HC.out).mono ?_; rintro e w3 ⟨rfl, h3, hb3⟩; have z3 := hb3.row hg z1 (by omega))
  | (refine zL rfl rfl rfl rfl z3 (zB h.hx) (zB h.hy) ?_; intro w6 r6 o6 s6))
 refine qA rfl rfl r6 rfl rfl ?_
 exact ⟨rfl, h3.at o6 (fun e => by have := (h.hx.lt _ e).2; omega) (fun e => by have := (h.hy.lt _ e).2; omega), ((But.of hB2).trans hb3).new o6 (by omega)⟩
set_option maxRecDepth 100000 in
set_option maxHeartbeats 1000000 in
theorem zPj (hv : v = m.val x y) (h : Ow base w x y m) (hok : m.ok = true) (n : Int) (hn : bok n = true) (hc : m.z = true) :
  Calls Tryz.prog 222 #[v, .int .i64 21, .int .i64 n] w fun e w' => Did base w w' e x y (m.does n 21) := by
 obtain ⟨g, hg, hgl⟩ := qZ h.hy hok
 have HC : Hid (m.z = true) := hc
 clear hc
 go_enter Tryz.func222, Tryz.ntmps222
 go_wp2_with (first
  | (refine zP rfl rfl hv ?_; intro w0 r0 hB0)
  | (refine zR rfl rfl ?_; intro w1 z1 hB1; have r1 := r0.below hB1; have hB2 := hB0.trans (hB1.mono hB0.size); have l0 := r0.lt; have lz := z1.lt; have h1 := h.below hB2)
  | (refine zI rfl rfl rfl r1 ?_)
  | (go_at_call 296; refine (zL9 rfl h1 hok _ HC.out).mono ?_; rintro e w3 ⟨rfl, h3, hb3⟩; have z3 := hb3.row hg z1 (by omega))
  | (refine zL rfl rfl rfl rfl z3 (zB h.hx) (zB h.hy) ?_; intro w6 r6 o6 s6))
 refine qA rfl rfl r6 rfl rfl ?_
 exact ⟨rfl, h3.at o6 (fun e => by have := (h.hx.lt _ e).2; omega) (fun e => by have := (h.hy.lt _ e).2; omega), ((But.of hB2).trans hb3).new o6 (by omega)⟩
set_option maxRecDepth 100000 in
set_option maxHeartbeats 1000000 in
theorem zPk (hv : v = m.val x y) (h : Ow base w x y m) (hok : m.ok = true) (n : Int) (hn : bok n = true) (hc : m.z = false) :
  Calls Tryz.prog 222 #[v, .int .i64 21, .int .i64 n] w fun e w' => Did base w w' e x y (m.does n 21) := by
 obtain ⟨g, hg, hgl⟩ := qZ h.hy hok
 have HC : Hid (m.z = false) := hc
 clear hc
 go_enter Tryz.func222, Tryz.ntmps222
 go_wp2_with (first
  | (refine zP rfl rfl hv ?_; intro w0 r0 hB0)
  | (refine zR rfl rfl ?_; intro w1 z1 hB1; have r1 := r0.below hB1; have hB2 := hB0.trans (hB1.mono hB0.size); have l0 := r0.lt; have lz := z1.lt; have h1 := h.below hB2)
  | (refine zI rfl rfl rfl r1 ?_)
  | (go_at_call 296; refine (zMa rfl h1 hok _ HC.out).mono ?_; rintro e w3 ⟨rfl, h3, hb3⟩; have z3 := hb3.row hg z1 (by omega))
  | (refine zL rfl rfl rfl rfl z3 (zB h.hx) (zB h.hy) ?_; intro w6 r6 o6 s6))
 refine qA rfl rfl r6 rfl rfl ?_
 exact ⟨rfl, h3.at o6 (fun e => by have := (h.hx.lt _ e).2; omega) (fun e => by have := (h.hy.lt _ e).2; omega), ((But.of hB2).trans hb3).new o6 (by omega)⟩
set_option maxRecDepth 100000 in
set_option maxHeartbeats 1000000 in
theorem zPh (hv : v = m.val x y) (h : Ow base w x y m) (hok : m.ok = true) (n : Int) (hn : bok n = true) (hc : m.c = true) :
  Calls Tryz.prog 222 #[v, .int .i64 22, .int .i64 n] w fun e w' => Did base w w' e x y (m.does n 22) := by
 obtain ⟨g, hg, hgl⟩ := qZ h.hy hok
 have HC : Hid (m.c = true) := hc
 clear hc
 go_enter Tryz.func222, Tryz.ntmps222
 go_wp2_with (first
  | (refine zP rfl rfl hv ?_; intro w0 r0 hB0)
  | (refine zR rfl rfl ?_; intro w1 z1 hB1; have r1 := r0.below hB1; have hB2 := hB0.trans (hB1.mono hB0.size); have l0 := r0.lt; have lz := z1.lt; have h1 := h.below hB2)
  | (refine zI rfl rfl rfl r1 ?_)
  | (go_at_call 296; refine (zL7 rfl h1 hok _ HC.out).mono ?_; rintro e w3 ⟨rfl, h3, hb3⟩; have z3 := hb3.row hg z1 (by omega))
  | (refine zL rfl rfl rfl rfl z3 (zB h.hx) (zB h.hy) ?_; intro w6 r6 o6 s6))
 refine qA rfl rfl r6 rfl rfl ?_
 exact ⟨rfl, h3.at o6 (fun e => by have := (h.hx.lt _ e).2; omega) (fun e => by have := (h.hy.lt _ e).2; omega), ((But.of hB2).trans hb3).new o6 (by omega)⟩
set_option maxRecDepth 100000 in
set_option maxHeartbeats 1000000 in
theorem zPi (hv : v = m.val x y) (h : Ow base w x y m) (hok : m.ok = true) (n : Int) (hn : bok n = true) (hc : m.c = false) :
  Calls Tryz.prog 222 #[v, .int .i64 22, .int .i64 n] w fun e w' => Did base w w' e x y (m.does n 22) := by
 obtain ⟨g, hg, hgl⟩ := qZ h.hy hok
 have HC : Hid (m.c = false) := hc
 clear hc
 go_enter Tryz.func222, Tryz.ntmps222
 go_wp2_with (first
  | (refine zP rfl rfl hv ?_; intro w0 r0 hB0)
  | (refine zR rfl rfl ?_; intro w1 z1 hB1; have r1 := r0.below hB1; have hB2 := hB0.trans (hB1.mono hB0.size); have l0 := r0.lt; have lz := z1.lt; have h1 := h.below hB2)
  | (refine zI rfl rfl rfl r1 ?_)
  | (go_at_call 296; refine (zL8 rfl h1 hok _ HC.out).mono ?_; rintro e w3 ⟨rfl, h3, hb3⟩; have z3 := hb3.row hg z1 (by omega))
  | (refine zL rfl rfl rfl rfl z3 (zB h.hx) (zB h.hy) ?_; intro w6 r6 o6 s6))
 refine qA rfl rfl r6 rfl rfl ?_
 exact ⟨rfl, h3.at o6 (fun e => by have := (h.hx.lt _ e).2; omega) (fun e => by have := (h.hy.lt _ e).2; omega), ((But.of hB2).trans hb3).new o6 (by omega)⟩
set_option maxRecDepth 100000 in
set_option maxHeartbeats 1000000 in
theorem zT5 (hv : v = m.val x y) (h : Ow base w x y m) (hok : m.ok = true) (n : Int) (hn : bok n = true) :
  Calls Tryz.prog 222 #[v, .int .i64 23, .int .i64 n] w fun e w' => Did base w w' e x y (m.does n 23) := by
 obtain ⟨g, hg, hgl⟩ := qZ h.hy hok
 go_enter Tryz.func222, Tryz.ntmps222
 go_wp2_with (first
  | (refine zP rfl rfl hv ?_; intro w0 r0 hB0)
  | (refine zR rfl rfl ?_; intro w1 z1 hB1; have r1 := r0.below hB1; have hB2 := hB0.trans (hB1.mono hB0.size); have l0 := r0.lt; have lz := z1.lt; have h1 := h.below hB2)
  | (refine zI rfl rfl rfl r1 ?_)
  | (go_at_call 296; refine (zPa rfl h1 hok _).mono ?_; rintro e w3 ⟨rfl, h3, hb3⟩; have z3 := hb3.row hg z1 (by omega))
  | (refine zL rfl rfl rfl rfl z3 (zB h.hx) (zB h.hy) ?_; intro w6 r6 o6 s6))
 refine qA rfl rfl r6 rfl rfl ?_
 exact ⟨rfl, h3.at o6 (fun e => by have := (h.hx.lt _ e).2; omega) (fun e => by have := (h.hy.lt _ e).2; omega), ((But.of hB2).trans hb3).new o6 (by omega)⟩
set_option maxRecDepth 100000 in
set_option maxHeartbeats 1000000 in
theorem zPf (hv : v = m.val x y) (h : Ow base w x y m) (hok : m.ok = true) (n : Int) (hn : bok n = true) (hc : m.e = true) :
  Calls Tryz.prog 222 #[v, .int .i64 24, .int .i64 n] w fun e w' => Did base w w' e x y (m.does n 24) := by
 obtain ⟨g, hg, hgl⟩ := qZ h.hy hok
 have HC : Hid (m.e = true) := hc
 clear hc
 go_enter Tryz.func222, Tryz.ntmps222
 go_wp2_with (first
  | (refine zP rfl rfl hv ?_; intro w0 r0 hB0)
  | (refine zR rfl rfl ?_; intro w1 z1 hB1; have r1 := r0.below hB1; have hB2 := hB0.trans (hB1.mono hB0.size); have l0 := r0.lt; have lz := z1.lt; have h1 := h.below hB2)
  | (refine zI rfl rfl rfl r1 ?_)
  | (go_at_call 296; refine (zL5 rfl h1 hok _ HC.out).mono ?_; rintro e w3 ⟨rfl, h3, hb3⟩; have z3 := hb3.row hg z1 (by omega))
  | (refine zL rfl rfl rfl rfl z3 (zB h.hx) (zB h.hy) ?_; intro w6 r6 o6 s6))
 refine qA rfl rfl r6 rfl rfl ?_
 exact ⟨rfl, h3.at o6 (fun e => by have := (h.hx.lt _ e).2; omega) (fun e => by have := (h.hy.lt _ e).2; omega), ((But.of hB2).trans hb3).new o6 (by omega)⟩
set_option maxRecDepth 100000 in
set_option maxHeartbeats 1000000 in
theorem zPg (hv : v = m.val x y) (h : Ow base w x y m) (hok : m.ok = true) (n : Int) (hn : bok n = true) (hc : m.e = false) :
  Calls Tryz.prog 222 #[v, .int .i64 24, .int .i64 n] w fun e w' => Did base w w' e x y (m.does n 24) := by
 obtain ⟨g, hg, hgl⟩ := qZ h.hy hok
 have HC : Hid (m.e = false) := hc
 clear hc
 go_enter Tryz.func222, Tryz.ntmps222
 go_wp2_with (first
  | (refine zP rfl rfl hv ?_; intro w0 r0 hB0)
  | (refine zR rfl rfl ?_; intro w1 z1 hB1; have r1 := r0.below hB1; have hB2 := hB0.trans (hB1.mono hB0.size); have l0 := r0.lt; have lz := z1.lt; have h1 := h.below hB2)
  | (refine zI rfl rfl rfl r1 ?_)
  | (go_at_call 296; refine (zL6 rfl h1 hok _ HC.out).mono ?_; rintro e w3 ⟨rfl, h3, hb3⟩; have z3 := hb3.row hg z1 (by omega))
  | (refine zL rfl rfl rfl rfl z3 (zB h.hx) (zB h.hy) ?_; intro w6 r6 o6 s6))
 refine qA rfl rfl r6 rfl rfl ?_
 exact ⟨rfl, h3.at o6 (fun e => by have := (h.hx.lt _ e).2; omega) (fun e => by have := (h.hy.lt _ e).2; omega), ((But.of hB2).trans hb3).new o6 (by omega)⟩
set_option maxRecDepth 100000 in
set_option maxHeartbeats 1000000 in
theorem zPd (hv : v = m.val x y) (h : Ow base w x y m) (hok : m.ok = true) (n : Int) (hn : bok n = true) (hc : m.e = true) :
  Calls Tryz.prog 222 #[v, .int .i64 29, .int .i64 n] w fun e w' => Did base w w' e x y (m.does n 29) := by
 obtain ⟨g, hg, hgl⟩ := qZ h.hy hok
 have HC : Hid (m.e = true) := hc
 clear hc
 go_enter Tryz.func222, Tryz.ntmps222
 go_wp2_with (first
  | (refine zP rfl rfl hv ?_; intro w0 r0 hB0)
  | (refine zR rfl rfl ?_; intro w1 z1 hB1; have r1 := r0.below hB1; have hB2 := hB0.trans (hB1.mono hB0.size); have l0 := r0.lt; have lz := z1.lt; have h1 := h.below hB2)
  | (refine zI rfl rfl rfl r1 ?_)
  | (go_at_call 296; refine (zL3 rfl h1 hok _ HC.out).mono ?_; rintro e w3 ⟨rfl, h3, hb3⟩; have z3 := hb3.row hg z1 (by omega))
  | (refine zL rfl rfl rfl rfl z3 (zB h.hx) (zB h.hy) ?_; intro w6 r6 o6 s6))
 refine qA rfl rfl r6 rfl rfl ?_
 exact ⟨rfl, h3.at o6 (fun e => by have := (h.hx.lt _ e).2; omega) (fun e => by have := (h.hy.lt _ e).2; omega), ((But.of hB2).trans hb3).new o6 (by omega)⟩
set_option maxRecDepth 100000 in
set_option maxHeartbeats 1000000 in
theorem zPe (hv : v = m.val x y) (h : Ow base w x y m) (hok : m.ok = true) (n : Int) (hn : bok n = true) (hc : m.e = false) :
  Calls Tryz.prog 222 #[v, .int .i64 29, .int .i64 n] w fun e w' => Did base w w' e x y (m.does n 29) := by
 obtain ⟨g, hg, hgl⟩ := qZ h.hy hok
 have HC : Hid (m.e = false) := hc
 clear hc
 go_enter Tryz.func222, Tryz.ntmps222
 go_wp2_with (first
  | (refine zP rfl rfl hv ?_; intro w0 r0 hB0)
  | (refine zR rfl rfl ?_; intro w1 z1 hB1; have r1 := r0.below hB1; have hB2 := hB0.trans (hB1.mono hB0.size); have l0 := r0.lt; have lz := z1.lt; have h1 := h.below hB2)
  | (refine zI rfl rfl rfl r1 ?_)
  | (go_at_call 296; refine (zL4 rfl h1 hok _ HC.out).mono ?_; rintro e w3 ⟨rfl, h3, hb3⟩; have z3 := hb3.row hg z1 (by omega))
  | (refine zL rfl rfl rfl rfl z3 (zB h.hx) (zB h.hy) ?_; intro w6 r6 o6 s6))
 refine qA rfl rfl r6 rfl rfl ?_
 exact ⟨rfl, h3.at o6 (fun e => by have := (h.hx.lt _ e).2; omega) (fun e => by have := (h.hy.lt _ e).2; omega), ((But.of hB2).trans hb3).new o6 (by omega)⟩
set_option maxRecDepth 100000 in
set_option maxHeartbeats 1000000 in
theorem zT3 (hv : v = m.val x y) (h : Ow base w x y m) (hok : m.ok = true) (n : Int) (hn : bok n = true) :
  Calls Tryz.prog 222 #[v, .int .i64 26, .int .i64 n] w fun e w' => Did base w w' e x y (m.does n 26) := by
 go_enter Tryz.func222, Tryz.ntmps222
 go_wp2_with (first
  | (refine zP rfl rfl hv ?_; intro w0 r0 hB0)
  | (refine zR rfl rfl ?_; intro w1 z1 hB1; have r1 := r0.below hB1; have hB2 := hB0.trans (hB1.mono hB0.size); have l0 := r0.lt; have lz := z1.lt; have h1 := h.below hB2)
  | (refine zI rfl rfl rfl r1 ?_)
  | (go_at_call 297; refine (zCe rfl h1 hok).mono ?_; rintro e w2 ⟨rfl, h2, hb2⟩; have hB3 := hB2.trans (hb2.mono hB2.size); have z2 := z1.below hb2; have r2 := r1.below hb2)
  | (refine zL rfl rfl rfl rfl r2 (zB h.hx) (zB h.hy) ?_; intro w3 r3 o3 s3; have z3 := z2.onto o3 (by omega); have hB4 := zA hB3 o3 (by omega))
  | (refine qV (m' := (m.does n 26).1) rfl rfl rfl rfl r3 rfl rfl ?_; intro w4 r4 o4 s4; have z4 := z3.onto o4 (by omega); have hB5 := zA hB4 o4 (by omega))
  | (refine zI rfl rfl rfl r4 ?_)
  | (refine zL rfl rfl rfl rfl z4 (zB h.hx) (zB h.hy) ?_; intro w6 r6 o6 s6))
 refine qA rfl rfl r6 rfl rfl ?_
 have hB6 := zA hB5 o6 (by omega)
 exact ⟨rfl, (h.below hB6).as rfl rfl, .of hB6⟩
theorem zPc (hv : v = m.val x y) (h : Ow base w x y m) (hok : m.ok = true) (n : Int) (hn : bok n = true) (k : Nat) (hk : k < 31) :
  Calls Tryz.prog 222 #[v, .int .i64 (k : Int), .int .i64 n] w fun e w' => Did base w w' e x y (m.does n k) := by
 match k with
 | 0 => exact zVw hv h hok n hn
 | 1 => exact zVv hv h hok n hn
 | 2 => exact zVu hv h hok n hn
 | 3 => exact zVt hv h hok n hn
 | 4 => exact zVs hv h hok n hn
 | 5 => exact zVr hv h hok n hn
 | 6 => exact zVq hv h hok n hn
 | 7 => exact zVp hv h hok n hn
 | 8 => exact zVo hv h hok n hn
 | 9 => exact zVn hv h hok n hn
 | 10 => exact zUf hv h hok n hn
 | 11 => exact zUe hv h hok n hn
 | 12 => exact zUd hv h hok n hn
 | 13 => exact zUc hv h hok n hn
 | 14 => exact zUb hv h hok n hn
 | 15 => exact zUa hv h hok n hn
 | 16 => exact zT9 hv h hok n hn
 | 17 => exact zT8 hv h hok n hn
 | 18 => exact zT7 hv h hok n hn
 | 19 => exact zT6 hv h hok n hn
 | 20 =>
  cases hc : m.z
  ·exact zPm hv h hok n hn hc
  ·exact zPl hv h hok n hn hc
 | 21 =>
  cases hc : m.z
  ·exact zPk hv h hok n hn hc
  ·exact zPj hv h hok n hn hc
 | 22 =>
  cases hc : m.c
  ·exact zPi hv h hok n hn hc
  ·exact zPh hv h hok n hn hc
 | 23 => exact zT5 hv h hok n hn
 | 24 =>
  cases hc : m.e
  ·exact zPg hv h hok n hn hc
  ·exact zPf hv h hok n hn hc
 | 25 => exact zT4 hv h hok n hn
 | 26 => exact zT3 hv h hok n hn
 | 27 => exact zT2 hv h hok n hn
 | 28 => exact zT1 hv h hok n hn
 | 29 =>
  cases hc : m.e
  ·exact zPe hv h hok n hn hc
  ·exact zPd hv h hok n hn hc
 | 30 => exact zT0 hv h hok n hn
 | k + 31 => omega
end
section
variable {ops : Array Oper} {rest : List Oper} {o : Oper} {a : Act} {w : World} {Q : Exit → Act → World → Prop} {g : Nat} {x y : Value} {m : Mc}
theorem zFd {fn : Func} {R : Ending → World → Prop} {q u u2 : Tmp} {v v2 : Value} (h : fn.results = #[.cell q 30, .tmp u, .tmp u2]) (hp : a.tmps.getD q undef = .pointer (some ⟨g, 0, none⟩)) (hr : MRow w g x y m) (hde : a.defers = []) (hv : a.tmps.getD u undef = v) (hv2 : a.tmps.getD u2 undef = v2)
  (hR : R (.returned (.tuple #[m.val x y, v, v2])) w) : bodyPost Tryz.prog fn R .ret a w := qO h hp hr Tryz.underlying30 rfl jB hde hv hv2 hR
variable {op : Oper} {K : Act → World → Prop} {p q : Operand} {x0 y0 : Value} {m0 : Mc}
theorem zVf (ho : op.op = .store 30 p q) (hx : a.eval p = .pointer (some ⟨g, 0, none⟩)) (hy : a.eval q = m.val x y) (hr : MRow w g x0 y0 m0) (h1 : x.oneCell' = true) (h2 : y.oneCell' = true)
  (h : ∀ w', MRow w' g x y m → Onto g w w' → K (a.put op.dst undef) w') : op.wp Tryz.prog a w K Q :=
 wp_store_row _ p q ho g _ hx hy _ _ hr.row jB rfl (zDj h1 h2 m)
  (h _ (Row.of (setRow_heap w g _ _ _ _ hr.row)) ⟨rfl, rfl, rfl, by simp, fun k hk _ => setRow_other w g k _ hk⟩)
end
section
variable {base : Nat} {w : World} {x y v : Value} {m : Mc}
def Ran (base : Nat) (w w' : World) (e : Ending) (x y : Value) (r : Mc × Int × Int) : Prop := e = .returned (.tuple #[r.1.val x y, .int .i64 r.2.1, .int .i64 r.2.2]) ∧ Ow base w' x y r.1 ∧ But y w w'
theorem zNp (hv : v = m.val x y) (h : Ow base w x y m) (hi : (m.h || m.s) = true) : Calls Tryz.prog 151 #[v] w fun e w' => Ran base w w' e x y (m, 1, -1) := by
 cases hh : m.h
 ·have hs : m.s = true := by simpa [hh] using hi
  go_enter Tryz.func151, Tryz.ntmps151
  go_wp2_with (first
   | (refine zP rfl rfl hv ?_; intro w0 r0 hB0)
   | (refine zR rfl rfl ?_; intro w1 z1 hB1; have r1 := r0.below hB1; have hB2 := hB0.trans (hB1.mono hB0.size); have l0 := r0.lt; have lz := z1.lt; have kh := (cw r1).h; have ks := (cw r1).s; rw [hh] at kh; rw [hs] at ks)
   | (refine zI rfl rfl rfl r1 ?_)
   | (refine zL rfl rfl rfl rfl z1 (zB h.hx) (zB h.hy) ?_; intro w6 r6 o6 s6))
  refine zFd rfl rfl r6 rfl rfl rfl ?_
  have hB6 := zA hB2 o6 (by omega)
  exact ⟨rfl, h.below hB6, .of hB6⟩
 ·go_enter Tryz.func151, Tryz.ntmps151
  go_wp2_with (first
   | (refine zP rfl rfl hv ?_; intro w0 r0 hB0)
   | (refine zR rfl rfl ?_; intro w1 z1 hB1; have r1 := r0.below hB1; have hB2 := hB0.trans (hB1.mono hB0.size); have l0 := r0.lt; have lz := z1.lt; have kh := (cw r1).h; rw [hh] at kh)
   | (refine zI rfl rfl rfl r1 ?_)
   | (refine zL rfl rfl rfl rfl z1 (zB h.hx) (zB h.hy) ?_; intro w6 r6 o6 s6))
  refine zFd rfl rfl r6 rfl rfl rfl ?_
  have hB6 := zA hB2 o6 (by omega)
  exact ⟨rfl, h.below hB6, .of hB6⟩
theorem zL2 (hv : v = m.val x y) (h : Ow base w x y m) (hok : m.ok = true) (hi : (m.h || m.s) = false) (hz : m.size' = 0) : Calls Tryz.prog 151 #[v] w fun e w' => Ran base w w' e x y ({ m with s := true }, 1, -1) := by
 have hh : m.h = false := by simp at hi; exact hi.1
 have hs : m.s = false := by simp at hi; exact hi.2
 have hpc := xI.1 (okm.1 hok).pc
 have HC : Hid ((line (m.read m.pc)).2.1 = 0) := hz
 clear hz
 go_enter Tryz.func151, Tryz.ntmps151
 go_wp2_with (first
  | (refine zP rfl rfl hv ?_; intro w0 r0 hB0)
  | (refine zR rfl rfl ?_; intro w1 z1 hB1; have r1 := r0.below hB1; have hB2 := hB0.trans (hB1.mono hB0.size); have l0 := r0.lt; have lz := z1.lt; have h1 := h.below hB2; have kh := (cw r1).h; have ks := (cw r1).s; have kp := (cw r1).pc; rw [hh] at kh; rw [hs] at ks)
  | (refine zI rfl rfl rfl r1 ?_)
  | (go_at_call 220; refine (zAz _ m _ _ h1.sl (Mc.right hok) hpc).mono ?_; rintro e w2 ⟨rfl, hb2⟩; have hB3 := hB2.trans (hb2.mono hB2.size); have z2 := z1.below hb2; have r2 := r1.below hb2; clear kh ks kp)
  | (go_at_call 221; refine (sizeOf_spec _ _).mono ?_; rintro e w3 ⟨rfl, hb3⟩; rw [HC.out]; have hB4 := hB3.trans (hb3.mono hB3.size); have z3 := z2.below hb3; have r3 := r2.below hb3)
  | (refine xY (m' := { m with s := true }) rfl rfl rfl rfl r3 rfl rfl ?_; intro w4 r4 o4 s4; have z4 := z3.onto o4 (by omega); have hB5 := zA hB4 o4 (by omega))
  | (refine zI rfl rfl rfl r4 ?_)
  | (refine zL rfl rfl rfl rfl z4 (zB h.hx) (zB h.hy) ?_; intro w6 r6 o6 s6))
 refine zFd rfl rfl r6 rfl rfl rfl ?_
 have hB6 := zA hB5 o6 (by omega)
 exact ⟨rfl, (h.below hB6).as rfl rfl, .of hB6⟩
structure Gy (w : World) (base g g2 : Nat) (x y : Value) (m : Mc) (b : Bool) (W : World) : Prop where
 row : MRow W g x y m
 ow : Ow base W x y m
 but : But y w W
 res : if b = true then MRow W g2 x y m else MRow W g2 zY zY Mc.nul
theorem Gy.below {w W W' : World} {base g g2 : Nat} {x y : Value} {m : Mc} {b : Bool} (h : Gy w base g g2 x y m b W) (hb : Below W.heap.size W W') : Gy w base g g2 x y m b W' :=
 ⟨h.row.below hb, h.ow.below hb, h.but.trans (.of hb), by have := h.res; cases b <;> exact Row.below this hb⟩
theorem Gy.lay {w W W' : World} {base g g2 : Nat} {x y : Value} {m : Mc} {b : Bool} (h : Gy w base g g2 x y m b W) (hr : MRow W' g2 x y m) (ho : Onto g2 W W') (h1 : g ≠ g2) (h2 : w.heap.size ≤ g2) (n1 : x.ownBlock ≠ some g2) (n2 : y.ownBlock ≠ some g2) : Gy w base g g2 x y m true W' :=
 ⟨h.row.onto ho h1, h.ow.at ho n1 n2, h.but.new ho h2, by simpa using hr⟩
set_option maxRecDepth 100000 in
set_option maxHeartbeats 2000000 in
theorem zNq (hv : v = m.val x y) (h : Ow base w x y m) (hok : m.ok = true) (hi : (m.h || m.s) = false) (k : Nat) (hk : k < 31) (hcode : m.code = (k : Int)) :
  Calls Tryz.prog 151 #[v] w fun e w' => Ran base w w' e x y ((m.onw.does m.opnd k).1, (line (k : Int)).2.2, (m.onw.does m.opnd k).2) := by
 have hh : m.h = false := by simp at hi; exact hi.1
 have hs : m.s = false := by simp at hi; exact hi.2
 have hpc := xI.1 (okm.1 hok).pc
 obtain ⟨g, hg, hgl⟩ := qZ h.hy hok
 have HC : Hid (m.read m.pc = (k : Int)) := hcode
 obtain ⟨sz, HS⟩ : ∃ sz, Hid (sz = (line (k : Int)).2.1) := ⟨_, show _ = _ from rfl⟩
 have hsz : 1 ≤ sz ∧ sz ≤ 2 := by have := zN7 k hk; have := HS.out; omega
 have hz0 : (sz == 0) = false := by simp; omega
 have HO : Hid (m.onw = { m with pc := (m.pc + sz) % 256 }) := show _ = _ by unfold Mc.onw Mc.size'; rw [hcode, ← HS.out]
 have hrem1 := vH (a := m.pc + 1) (r := 256) (by omega)
 have hrem2 := vH (a := m.pc + sz) (r := 256) (by omega)
 have hq : 0 ≤ (m.pc + 1) % 256 ∧ (m.pc + 1) % 256 ≤ 255 := by omega
 have HP : Hid (m.read ((m.pc + 1) % 256) = m.opnd) := show _ = _ from rfl
 clear hcode
 go_enter Tryz.func151, Tryz.ntmps151
 go_wp2_with (first
  | (refine zP rfl rfl hv ?_; intro w0 r0 hB0)
  | (refine zR rfl rfl ?_; intro w1 z1 hB1; have r1 := r0.below hB1; have hB2 := hB0.trans (hB1.mono hB0.size); have l0 := r0.lt; have lz := z1.lt; have h1 := h.below hB2; have kh := (cw r1).h; have ks := (cw r1).s; have kp := (cw r1).pc; rw [hh] at kh; rw [hs] at ks)
  | (refine zI rfl rfl rfl r1 ?_))
 go_at_call 220
 refine (zAz _ m _ _ h1.sl (Mc.right hok) hpc).mono ?_
 rintro e w2 ⟨rfl, hb2⟩
 rw [HC.out]
 have hB3 := hB2.trans (hb2.mono hB2.size)
 have z2 := z1.below hb2
 have r2 := r1.below hb2
 clear kh ks kp
 go_wp2_with (first
  | (go_at_call 221; refine (sizeOf_spec _ _).mono ?_; rintro e w3 ⟨rfl, hb3⟩; rw [← HS.out]; have hB4 := hB3.trans (hb3.mono hB3.size); have z3 := z2.below hb3; have r3 := r2.below hb3; have kp := (cw r3).pc; have h3 := h.below hB4)
  | (refine zI rfl rfl rfl r3 ?_))
 go_at_call 220
 refine (zAz _ m _ _ h3.sl (Mc.right hok) hq).mono ?_
 rintro e w4 ⟨rfl, hb4⟩
 rw [HP.out]
 have hB5 := hB4.trans (hb4.mono hB4.size)
 have z4 := z3.below hb4
 have r4 := r3.below hb4
 have kp4 := (cw r4).pc
 have lz4 := z4.lt
 have lr4 := r4.lt
 clear kp
 obtain ⟨N, HN⟩ : ∃ N, Hid (N = m.opnd) := ⟨_, show _ = _ from rfl⟩
 rw [← HN.out]
 have hnb : bok N = true := by rw [HN.out]; exact zKh hok
 obtain ⟨M, HM⟩ : ∃ M, Hid (M = (m.onw.does m.opnd k).1) := ⟨_, show _ = _ from rfl⟩
 obtain ⟨O, HQ⟩ : ∃ O, Hid (O = (m.onw.does m.opnd k).2) := ⟨_, show _ = _ from rfl⟩
 obtain ⟨m5, H5⟩ : ∃ m5 : Mc, Hid (m5 = { m with pc := (m.pc + sz) % 256 }) := ⟨_, show _ = _ from rfl⟩
 have hDo : ∀ (W : World), Ow base W x y m5 → Calls Tryz.prog 222 #[m5.val x y, .int .i64 (k : Int), .int .i64 N] W fun e w' => e = .returned (.tuple #[M.val x y, .int .i64 O]) ∧ Ow base w' x y M ∧ But y W w' := fun W hW => by
  rw [HM.out, HQ.out, HO.out, ← HN.out, ← H5.out]
  exact zPc rfl hW (by rw [H5.out]; exact zGo hok (zCz _)) _ hnb k hk
 clear hnb
 have hc5 : (m.cells x y).setIfInBounds 4 (.int .i64 ((m.pc + sz) % 256)) = m5.cells x y := by rw [H5.out]; rfl
 have hr5 : m5.rom = m.rom ∧ m5.ram = m.ram := by rw [H5.out]; exact ⟨rfl, rfl⟩
 go_wp2_with (first
  | (refine qV (m' := m5) rfl rfl rfl rfl r4 rfl hc5 ?_; intro w5 r5 o5 s5; have z5 := z4.onto o5 (by omega); have hB6 := zA hB5 o5 (by omega); have h5 := (h.below hB6).as (m' := m5) hr5.1 hr5.2; clear hc5 hr5 kp4 hrem1 hrem2 hz0)
  | (refine zI rfl rfl rfl r5 ?_)
  | (go_at_call 222; refine (hDo _ h5).mono ?_; rintro e w6 ⟨rfl, h6, hb6⟩; have z6 := hb6.row hg z5 (by omega); have hsz6 := (hb6 g hg).size; have hsB6 := hB6.size)
  | (refine zR rfl rfl ?_; intro w7 z7 hb7; have z7' := z6.below hb7; have h7 := h6.below hb7; have l7 := z7.lt; have l6 := z6.lt; have hsz7 := hb7.size)
  | (refine zL rfl rfl rfl rfl z7 (zB h.hx) (zB h.hy) ?_; intro w8 r8 o8 s8))
 have hGy : Gy w base w6.heap.size w0.heap.size x y M false w8 :=
  ⟨r8, h7.at o8 (fun e => by have := (h.hx.lt _ e).2; omega) (fun e => by have := (h.hy.lt _ e).2; omega), (((But.of hB6).trans hb6).trans (.of hb7)).new o8 (by omega), z7'.onto o8 (by omega)⟩
 have hs0 := hB0.size
 refine qD (by kernel_rfl) (by kernel_rfl) 4 (by decide) (by kernel_rfl) (Gy w base w6.heap.size w0.heap.size x y M)
  [M.val x y, .int .i64 (k : Int), .int .i64 (line (k : Int)).2.2, .int .i64 O, undef, .int .i64 (line (k : Int)).2.2, .int .i64 O] (hGy.below (below_drewN (Below.refl _ _) 1)) ?step ?done
 case step =>
  intro L ix o' A W hi hI hL hd
  have hin : ix < 7 := qB hi
  have hg' := hI.g
  rcases ix with _ | _ | _ | _ | _ | _ | _ | ix
  ·cases hi; exact zC rfl rfl (wp_load_row _ _ rfl _ (hI.ol 8 rfl) _ _ _ _ hg'.row.row Tryz.underlying30 rfl jB ⟨_, rfl, rfl, by simpa using hg'⟩)
  ·cases hi; exact am rfl rfl rfl ⟨_, rfl, hI.ol 5 rfl, by simpa using hg'⟩
  ·cases hi; have e0 : A.eval (.tmp 47) = .int .i64 (k : Int) := hI.vl hd 1 rfl
   refine zC rfl rfl (zS rfl Tryz.func223 (by kernel_rfl) (by kernel_rfl) ?_)
   simp only [List.map_cons, List.map_nil, e0]
   refine (zMx _ _).mono ?_
   rintro e W1 ⟨rfl, hb⟩
   exact ⟨_, rfl, _, rfl, rfl, by simpa using hg'.below hb⟩
  ·cases hi; exact am rfl rfl rfl ⟨_, rfl, hI.ol 9 rfl, by simpa using hg'⟩
  ·cases hi; have e0 := hI.ol 2 rfl
   have e1 : A.eval (.tmp 46) = M.val x y := hI.vl hd 0 rfl
   have hres : MRow W w0.heap.size zY zY Mc.nul := by have := hg'.res; simpa [hL] using this
   refine zC rfl rfl (zVf rfl e0 e1 hres (zB hg'.ow.hx) (zB hg'.ow.hy) (fun W1 hr hon => ⟨_, rfl, rfl, ?_⟩))
   have := hg'.lay hr hon (by omega) (by omega) (fun e => by have := (h.hx.lt _ e).2; omega) (fun e => by have := (h.hy.lt _ e).2; omega)
   simpa using this
  ·cases hi; exact zC rfl rfl (qC rfl ⟨_, rfl, hI.vl hd 2 rfl, by simpa using hg'⟩)
  ·cases hi; exact zC rfl rfl (qC rfl ⟨_, rfl, hI.vl hd 3 rfl, by simpa using hg'⟩)
  omega
 case done =>
  intro A W hI
  have hg' := hI.g
  have hres : MRow W w0.heap.size x y M := by have := hg'.res; simpa using this
  have a2 : A.tmps.getD 2 undef = .pointer (some ⟨w0.heap.size, 0, none⟩) := hI.old 2 (by kernel_rfl)
  have a3 : A.tmps.getD 3 undef = .int .i64 (line (k : Int)).2.2 := hI.last 5 3 rfl
  have a4 : A.tmps.getD 4 undef = .int .i64 O := hI.last 6 4 rfl
  go_wp2_with fail
  refine zFd rfl a2 hres hI.defers a3 a4 ?_
  rw [← HM.out, ← HQ.out]
  exact ⟨rfl, hg'.ow, hg'.but⟩
theorem zBk (hv : v = m.val x y) (h : Ow base w x y m) (hok : m.ok = true) : Calls Tryz.prog 151 #[v] w fun e w' => Ran base w w' e x y m.exec := by
 unfold Mc.exec
 cases hi : (m.h || m.s)
 ·rw [if_neg (by decide)]
  by_cases hz : m.size' = 0
  ·rw [if_pos hz]; exact zL2 hv h hok hi hz
  ·rw [if_neg hz]
   have hc : 0 ≤ m.code ∧ m.code < 31 := by
    by_cases h : 0 ≤ m.code ∧ m.code < 31
    ·exact h
    ·exact absurd (by unfold Mc.size'; rw [zN6 _ h]) hz
   obtain ⟨k, hk⟩ : ∃ k : Nat, m.code = (k : Int) := ⟨m.code.toNat, by omega⟩
   have hk31 : k < 31 := by omega
   rw [hk, Int.toNat_natCast]
   exact zNq hv h hok hi k hk31 hk
 ·rw [if_pos rfl]; exact zNp hv h hi
end
end Go.Proofs.YtamldhflkfbdnaaGreatDoor.Mem
