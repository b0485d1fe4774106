/-
  Interrupts, as the document tells them: which one is first, who is called away; a right machine stays right, and who is called away comes back by rti. Interrupts: the model's functions.
-/
import Derived.Test.YtocofjimkfffeaaGreatDoorCp
import Derived.Test.YtocofjimkfffeaaGreatDoorSp
namespace Go.Proofs.YtocofjimkfffeaaGreatDoor.Mem
open Go.ChangeShapes Go.WideShapes Go.RowKit Base Num Slc Rw Tmr Srl Rom RomOf Opl
set_option linter.unusedVariables false
set_option linter.unusedSimpArgs false

/-- The least bit that both have, -1 where there is none. -/
def pend (f s : Int) : Int :=
  if f % 2 = 1 ∧ s % 2 = 1 then 0 else if f / 2 % 2 = 1 ∧ s / 2 % 2 = 1 then 1 else if f / 4 % 2 = 1 ∧ s / 4 % 2 = 1 then 2 else -1
def Mc.pend (m : Mc) : Int := Mem.pend m.fl m.ms
def Mc.pendIn (m : Mc) : Int := if m.ok then m.pend else -1
def bitOf (i : Int) : Int := if i = 0 then 1 else if i = 1 then 2 else 4
def Mc.woken (m : Mc) : Mc := { m with h := false }
/-- Woken, not enabled, the bit out of the flags. -/
def Mc.taken (m : Mc) (i : Int) : Mc := { m with h := false, e := false, fl := m.fl - bitOf i }
def Mc.away (m : Mc) (i : Int) : Mc := { (m.taken i).psh m.pc with pc := 16 + 8 * i }
def Mc.call (m : Mc) : Mc × Int :=
  if m.pend < 0 ∨ m.s = true then (m, -1) else if m.e = false then (m.woken, -1) else (m.away m.pend, m.pend)
def Mc.called (m : Mc) : Mc × Int := if m.ok then m.call else (Mc.nul, -1)
theorem pend_in (f s : Int) : pend f s = -1 ∨ pend f s = 0 ∨ pend f s = 1 ∨ pend f s = 2 := by
  unfold pend
  repeat' split
  all_goals omega
theorem woken_ok {m : Mc} (h : m.ok = true) : m.woken.ok = true := okm.2 { okm.1 h with }
theorem taken_ok {m : Mc} (h : m.ok = true) {i : Int} (hi : m.pend = i) (h0 : 0 ≤ i) : (m.taken i).ok = true := by
  have hk := okm.1 h
  have hf := inn_true hk.fl
  refine okm.2 { hk with fl := ?_ }
  show inn (m.fl - bitOf i) 0 7 = true
  have : 0 ≤ m.fl - bitOf i := by
    unfold Mc.pend pend at hi
    unfold bitOf
    repeat' split at hi
    all_goals (repeat' split)
    all_goals omega
  have hb : 0 ≤ bitOf i := by
    unfold bitOf
    repeat' split
    all_goals omega
  simp [inn]
  omega
theorem away_like {m : Mc} (h : m.ok = true) {i : Int} (hi : m.pend = i) (h0 : 0 ≤ i) : Like m (m.away i) := by
  have h1 : i = -1 ∨ i = 0 ∨ i = 1 ∨ i = 2 := hi ▸ pend_in m.fl m.ms
  exact ⟨ok_pc (psh_ok (taken_ok h hi h0) (okm.1 h).pc) (bok_iff.2 (by omega)), write_rest _ _ _⟩
theorem call_like {m : Mc} (h : m.ok = true) : Like m m.call.1 := by
  unfold Mc.call
  split
  · exact ⟨h, rfl, rfl⟩
  split
  · exact ⟨woken_ok h, rfl, rfl⟩
  · rename_i h1 _
    exact away_like h rfl (by omega)
end Go.Proofs.YtocofjimkfffeaaGreatDoor.Mem
namespace Go.Proofs.YtocofjimkfffeaaGreatDoor.Mem
open Go.ChangeShapes Go.WideShapes Go.RowKit Base Num Slc Rw Tmr Srl Rom RomOf Opl Reg
set_option linter.unusedVariables false
set_option linter.unusedSimpArgs false

/-- Neither of the bits below k is in both. -/
def noneTo (f s : Int) (k : Nat) : Prop := ∀ j : Nat, j < k → ¬ (f / 2 ^ j % 2 = 1 ∧ s / 2 ^ j % 2 = 1)
theorem pend_at {f s : Int} {k : Nat} (hk : k < 3) (h : noneTo f s k) (h1 : f / 2 ^ k % 2 = 1) (h2 : s / 2 ^ k % 2 = 1) : pend f s = k := by
  have a0 := h 0
  have a1 := h 1
  obtain rfl | rfl | rfl : k = 0 ∨ k = 1 ∨ k = 2 := by omega
  all_goals simp at a0 a1 h1 h2
  all_goals unfold pend
  all_goals repeat' split
  all_goals omega
theorem pend_no {f s : Int} (h : noneTo f s 3) : pend f s = -1 := by
  have a0 := h 0 (by omega)
  have a1 := h 1 (by omega)
  have a2 := h 2 (by omega)
  simp at a0 a1 a2
  unfold pend
  repeat' split
  all_goals omega
theorem noneTo_succ {f s : Int} {k : Nat} (h : noneTo f s k) (h1 : ¬ (f / 2 ^ k % 2 = 1 ∧ s / 2 ^ k % 2 = 1)) : noneTo f s (k + 1) := fun j hj => by
  by_cases e : j = k
  · subst e; exact h1
  · exact h j (by omega)
theorem l8Pending_spec (v x y : Value) (m : Mc) (w : World) (hv : v = m.val x y) (hok : m.ok = true) :
    Calls Tryz.prog 56 #[v] w fun e w' => e = .returned (.int .i64 m.pend) ∧ Below w.heap.size w w' := by
  obtain ⟨⟨f0, f1⟩, ⟨s0, s1⟩⟩ := Mc.ok_parts hok
  have HP : Hid (m.pend = pend m.fl m.ms) := show _ = _ from rfl
  go_enter Tryz.func56, Tryz.ntmps56
  go_wp2_with (refine box_m rfl rfl hv ?_; intro w0 r0 hB0)
  have c1 := (cw r0).fl
  have c2 := (cw r0).ms
  generalize m.fl = f at *
  generalize m.ms = s at *
  go_loopw [3] (fun i wr => ∃ k : Nat, k ≤ 3 ∧ i = .int .i64 k ∧ noneTo f s k ∧ wr = w0) (fun i _ => 3 - (intOf i).toNat)
  case atStart => exact ⟨0, by omega, rfl, fun j hj => by omega, rfl⟩
  case round =>
    obtain ⟨k, hk, rfl, hn, rfl⟩ := hrel
    by_cases h3 : k = 3
    · subst h3
      have hp := pend_no hn
      go_wp2
      go_ret
      exact ⟨ret_int (by rw [HP.out, hp]), hB0⟩
    · have hk3 : k < 3 := by omega
      have HN : Hid (noneTo f s k ∧ k < 3) := show _ ∧ _ from ⟨hn, hk3⟩
      by_cases hf : f / 2 ^ k % 2 = 1
      · by_cases hs : s / 2 ^ k % 2 = 1
        · have HE : Hid (pend f s = k) := pend_at hk3 hn hf hs
          obtain rfl | rfl | rfl : k = 0 ∨ k = 1 ∨ k = 2 := by omega
          all_goals
            go_wp2
            go_ret
            exact ⟨ret_int (by rw [HP.out, HE.out]; rfl), hB0⟩
        · have HS := noneTo_succ hn (fun e => hs e.2)
          obtain rfl | rfl | rfl : k = 0 ∨ k = 1 ∨ k = 2 := by omega
          all_goals
            go_wp2
            go_roundw
            case rel => exact ⟨_, by decide, rfl, HS, trivial⟩
            case measure => simp [intOf]
      · have HS := noneTo_succ hn (fun e => hf e.1)
        obtain rfl | rfl | rfl : k = 0 ∨ k = 1 ∨ k = 2 := by omega
        all_goals
          go_wp2
          go_roundw
          case rel => exact ⟨_, by decide, rfl, HS, trivial⟩
          case measure => simp [intOf]
theorem pendingIn_spec (v : Value) (m : Mc) (w : World) (hm : MSl w v m) :
    Calls Tryz.prog 19 #[v] w fun e w' => e = .returned (.int .i64 m.pendIn) ∧ Below w.heap.size w w' := by
  obtain ⟨vr, va, hv, hr, ha⟩ := hm
  have HP : Hid (m.pendIn = if m.ok then m.pend else -1) := show _ = _ from rfl
  cases hok : m.ok
  · go_enter Tryz.func19, Tryz.ntmps19
    go_wp2_with (first
      | (refine box_m rfl rfl hv ?_; intro w0 r0 hB0)
      | (refine ld_mc rfl rfl rfl r0 ?_)
      | (go_at_call 10; refine (machineOk_spec _ m _ ⟨vr, va, rfl, hr.below hB0, ha.below hB0⟩).mono ?_; rintro e w2 ⟨rfl, hb2⟩; rw [hok]; have hB3 := hB0.trans (hb2.mono hB0.size)))
    go_ret
    exact ⟨ret_int (by rw [HP.out, hok]; rfl), hB3⟩
  · have hok' : Hid (m.ok = true) := hok
    go_enter Tryz.func19, Tryz.ntmps19
    go_wp2_with (first
      | (refine box_m rfl rfl hv ?_; intro w0 r0 hB0)
      | (refine ld_mc rfl rfl rfl r0 ?_)
      | (go_at_call 10; refine (machineOk_spec _ m _ ⟨vr, va, rfl, hr.below hB0, ha.below hB0⟩).mono ?_; rintro e w2 ⟨rfl, hb2⟩; rw [hok]; have hB3 := hB0.trans (hb2.mono hB0.size); replace r0 := r0.below hb2)
      | (go_at_call 56; refine (l8Pending_spec _ vr va m _ rfl hok'.out).mono ?_; rintro e w3 ⟨rfl, hb3⟩; have hB4 := hB3.trans (hb3.mono hB3.size)))
    go_ret
    exact ⟨ret_int (by rw [HP.out, hok]; rfl), hB4⟩
section
variable {base : Nat} {w : World} {x y v : Value} {m : Mc}
theorem l8Call_no (hv : v = m.val x y) (h : Ow base w x y m) (hok : m.ok = true) (hc : m.pend < 0 ∨ m.s = true) :
    Calls Tryz.prog 54 #[v] w fun e w' => e = .returned (.tuple #[m.val x y, .int .i64 (-1)]) ∧ Ow base w' x y m ∧ But y w w' := by
  have HC : Hid (m.pend < 0 ∨ m.s = true) := hc
  have hp : m.pend = -1 ∨ m.pend = 0 ∨ m.pend = 1 ∨ m.pend = 2 := pend_in m.fl m.ms
  go_enter Tryz.func54, Tryz.ntmps54
  go_wp2_with (first
    | (refine box_m rfl rfl hv ?_; intro w0 r0 hB0)
    | (refine al_mc rfl rfl ?_; intro w1 z1 hB1; have r1 := r0.below hB1; have hB2 := hB0.trans (hB1.mono hB0.size); have l0 := r0.lt; have lz := z1.lt)
    | (refine ld_mc rfl rfl rfl r1 ?_))
  go_at_call 56
  refine (l8Pending_spec _ x y m _ rfl hok).mono ?_
  rintro e w3 ⟨rfl, hb3⟩
  have hB4 := hB2.trans (hb3.mono hB2.size)
  have r3 := r1.below hb3
  have z3 := z1.below hb3
  have ks := (cw r3).s
  have sB2 := hB2.size
  clear r0 r1 z1 hB0 hB1
  generalize m.pend = p at hc hp ⊢
  by_cases h0 : p < 0
  · go_wp2_with (first
      | (refine ld_mc rfl rfl rfl r3 ?_)
      | (refine st_mc rfl rfl rfl rfl z3 (one_own h.hx) (one_own h.hy) ?_; intro w6 r6 o6 s6))
    refine ret_mc2 rfl rfl r6 rfl rfl ?_
    have hB6 := below_onto hB4 o6 (by omega)
    exact ⟨rfl, h.below hB6, .of hB6⟩
  · have hs : m.s = true := hc.resolve_left h0
    rw [hs] at ks
    go_wp2_with (first
      | (refine ld_mc rfl rfl rfl r3 ?_)
      | (refine st_mc rfl rfl rfl rfl z3 (one_own h.hx) (one_own h.hy) ?_; intro w6 r6 o6 s6))
    refine ret_mc2 rfl rfl r6 rfl rfl ?_
    have hB6 := below_onto hB4 o6 (by omega)
    exact ⟨rfl, h.below hB6, .of hB6⟩
theorem l8Call_woken (hv : v = m.val x y) (h : Ow base w x y m) (hok : m.ok = true) (hc : ¬ m.pend < 0) (hs : m.s = false) (he : m.e = false) :
    Calls Tryz.prog 54 #[v] w fun e w' => e = .returned (.tuple #[m.woken.val x y, .int .i64 (-1)]) ∧ Ow base w' x y m.woken ∧ But y w w' := by
  go_enter Tryz.func54, Tryz.ntmps54
  go_wp2_with (first
    | (refine box_m rfl rfl hv ?_; intro w0 r0 hB0)
    | (refine al_mc rfl rfl ?_; intro w1 z1 hB1; have r1 := r0.below hB1; have hB2 := hB0.trans (hB1.mono hB0.size); have l0 := r0.lt; have lz := z1.lt)
    | (refine ld_mc rfl rfl rfl r1 ?_))
  go_at_call 56
  refine (l8Pending_spec _ x y m _ rfl hok).mono ?_
  rintro e w3 ⟨rfl, hb3⟩
  have hB4 := hB2.trans (hb3.mono hB2.size)
  have r3 := r1.below hb3
  have z3 := z1.below hb3
  have ks := (cw r3).s
  rw [hs] at ks
  have sB2 := hB2.size
  clear r0 r1 z1 hB0 hB1
  generalize m.pend = p at hc ⊢
  go_wp2_with (first
    | (refine st_yes (m' := m.woken) rfl rfl rfl rfl r3 rfl rfl ?_; intro w4 r4 o4 s4; have z4 := z3.onto o4 (by omega); have hB5 := below_onto hB4 o4 (by omega); have ke : w4.cell? ⟨w.heap.size, 8, none⟩ = some (.bool m.e) := (cw r4).e; rw [he] at ke)
    | (refine ld_mc rfl rfl rfl r4 ?_)
    | (refine st_mc rfl rfl rfl rfl z4 (one_own h.hx) (one_own h.hy) ?_; intro w6 r6 o6 s6))
  refine ret_mc2 rfl rfl r6 rfl rfl ?_
  have hB6 := below_onto hB5 o6 (by omega)
  exact ⟨rfl, (h.below hB6).as rfl rfl, .of hB6⟩
theorem l8Call_away0 (hv : v = m.val x y) (h : Ow base w x y m) (hok : m.ok = true) (hc : m.pend = 0) (hs : m.s = false) (he : m.e = true) :
    Calls Tryz.prog 54 #[v] w fun e w' => e = .returned (.tuple #[(m.away 0).val x y, .int .i64 0]) ∧ Ow base w' x y (m.away 0) ∧ But y w w' := by
  obtain ⟨g, hg, hgl⟩ := ram_block h.hy hok
  have hf := inn_true (okm.1 hok).fl
  have HT : Hid ((m.taken 0).ok = true) := taken_ok hok hc (by omega)
  have hpc := (okm.1 hok).pc
  go_enter Tryz.func54, Tryz.ntmps54
  go_wp2_with (first
    | (refine box_m rfl rfl hv ?_; intro w0 r0 hB0)
    | (refine al_mc rfl rfl ?_; intro w1 z1 hB1; have r1 := r0.below hB1; have hB2 := hB0.trans (hB1.mono hB0.size); have l0 := r0.lt; have lz := z1.lt)
    | (refine ld_mc rfl rfl rfl r1 ?_))
  go_at_call 56
  refine (l8Pending_spec _ x y m _ rfl hok).mono ?_
  rintro e w3 ⟨rfl, hb3⟩
  rw [hc]
  have hB4 := hB2.trans (hb3.mono hB2.size)
  have r3 := r1.below hb3
  have z3 := z1.below hb3
  have ks := (cw r3).s
  rw [hs] at ks
  have sB2 := hB2.size
  clear r0 r1 z1 hB0 hB1
  go_wp2_with (first
    | (refine st_yes (m' := m.woken) rfl rfl rfl rfl r3 rfl rfl ?_; intro w4 r4 o4 s4; have z4 := z3.onto o4 (by omega); have hB5 := below_onto hB4 o4 (by omega); have ke : w4.cell? ⟨w.heap.size, 8, none⟩ = some (.bool m.e) := (cw r4).e; rw [he] at ke)
    | (refine st_yes (m' := { m.woken with e := false }) rfl rfl rfl rfl r4 rfl rfl ?_; intro w5 r5 o5 s5; have z5 := z4.onto o5 (by omega); have hB6 := below_onto hB5 o5 (by omega); have kf : w5.cell? ⟨w.heap.size, 11, none⟩ = some (.int .i64 m.fl) := (cw r5).fl)
    | (refine st_num (m' := m.taken 0) rfl rfl rfl rfl r5 rfl rfl ?_; intro w6 r6 o6 s6; have z6 := z5.onto o6 (by omega); have hB7 := below_onto hB6 o6 (by omega); have kp : w6.cell? ⟨w.heap.size, 4, none⟩ = some (.int .i64 m.pc) := (cw r6).pc; have h7 := (h.below hB7).as (m' := m.taken 0) rfl rfl)
    | (refine ld_mc rfl rfl rfl r6 ?_)
    | (go_at_call 123; refine (l7Push_spec rfl h7 HT.out _ hpc).mono ?_; rintro e w8 ⟨rfl, h8, hb8⟩; have z8 := hb8.row hg z6 (by omega); have r8 := hb8.row hg r6 (by omega))
    | (refine st_mc rfl rfl rfl rfl r8 (one_own h.hx) (one_own h.hy) ?_; intro w9 r9 o9 s9; have z9 := z8.onto o9 (by omega); have h9 := h8.at o9 (fun e => by have := (h.hx.lt _ e).2; omega) (fun e => by have := (h.hy.lt _ e).2; omega))
    | (refine st_num (m' := m.away 0) rfl rfl rfl rfl r9 rfl rfl ?_; intro w10 r10 o10 s10; have z10 := z9.onto o10 (by omega); have h10 := (h9.at o10 (fun e => by have := (h.hx.lt _ e).2; omega) (fun e => by have := (h.hy.lt _ e).2; omega)).as (m' := m.away 0) rfl rfl)
    | (refine ld_mc rfl rfl rfl r10 ?_)
    | (refine st_mc rfl rfl rfl rfl z10 (one_own h.hx) (one_own h.hy) ?_; intro w11 r11 o11 s11))
  refine ret_mc2 rfl rfl r11 rfl rfl ?_
  exact ⟨rfl, h10.at o11 (fun e => by have := (h.hx.lt _ e).2; omega) (fun e => by have := (h.hy.lt _ e).2; omega), (((((But.of hB7).trans hb8).new o9 (by omega)).new o10 (by omega)).new o11 (by omega))⟩
theorem l8Call_away1 (hv : v = m.val x y) (h : Ow base w x y m) (hok : m.ok = true) (hc : m.pend = 1) (hs : m.s = false) (he : m.e = true) :
    Calls Tryz.prog 54 #[v] w fun e w' => e = .returned (.tuple #[(m.away 1).val x y, .int .i64 1]) ∧ Ow base w' x y (m.away 1) ∧ But y w w' := by
  obtain ⟨g, hg, hgl⟩ := ram_block h.hy hok
  have hf := inn_true (okm.1 hok).fl
  have HT : Hid ((m.taken 1).ok = true) := taken_ok hok hc (by omega)
  have hpc := (okm.1 hok).pc
  go_enter Tryz.func54, Tryz.ntmps54
  go_wp2_with (first
    | (refine box_m rfl rfl hv ?_; intro w0 r0 hB0)
    | (refine al_mc rfl rfl ?_; intro w1 z1 hB1; have r1 := r0.below hB1; have hB2 := hB0.trans (hB1.mono hB0.size); have l0 := r0.lt; have lz := z1.lt)
    | (refine ld_mc rfl rfl rfl r1 ?_))
  go_at_call 56
  refine (l8Pending_spec _ x y m _ rfl hok).mono ?_
  rintro e w3 ⟨rfl, hb3⟩
  rw [hc]
  have hB4 := hB2.trans (hb3.mono hB2.size)
  have r3 := r1.below hb3
  have z3 := z1.below hb3
  have ks := (cw r3).s
  rw [hs] at ks
  have sB2 := hB2.size
  clear r0 r1 z1 hB0 hB1
  go_wp2_with (first
    | (refine st_yes (m' := m.woken) rfl rfl rfl rfl r3 rfl rfl ?_; intro w4 r4 o4 s4; have z4 := z3.onto o4 (by omega); have hB5 := below_onto hB4 o4 (by omega); have ke : w4.cell? ⟨w.heap.size, 8, none⟩ = some (.bool m.e) := (cw r4).e; rw [he] at ke)
    | (refine st_yes (m' := { m.woken with e := false }) rfl rfl rfl rfl r4 rfl rfl ?_; intro w5 r5 o5 s5; have z5 := z4.onto o5 (by omega); have hB6 := below_onto hB5 o5 (by omega); have kf : w5.cell? ⟨w.heap.size, 11, none⟩ = some (.int .i64 m.fl) := (cw r5).fl)
    | (refine st_num (m' := m.taken 1) rfl rfl rfl rfl r5 rfl rfl ?_; intro w6 r6 o6 s6; have z6 := z5.onto o6 (by omega); have hB7 := below_onto hB6 o6 (by omega); have kp : w6.cell? ⟨w.heap.size, 4, none⟩ = some (.int .i64 m.pc) := (cw r6).pc; have h7 := (h.below hB7).as (m' := m.taken 1) rfl rfl)
    | (refine ld_mc rfl rfl rfl r6 ?_)
    | (go_at_call 123; refine (l7Push_spec rfl h7 HT.out _ hpc).mono ?_; rintro e w8 ⟨rfl, h8, hb8⟩; have z8 := hb8.row hg z6 (by omega); have r8 := hb8.row hg r6 (by omega))
    | (refine st_mc rfl rfl rfl rfl r8 (one_own h.hx) (one_own h.hy) ?_; intro w9 r9 o9 s9; have z9 := z8.onto o9 (by omega); have h9 := h8.at o9 (fun e => by have := (h.hx.lt _ e).2; omega) (fun e => by have := (h.hy.lt _ e).2; omega))
    | (refine st_num (m' := m.away 1) rfl rfl rfl rfl r9 rfl rfl ?_; intro w10 r10 o10 s10; have z10 := z9.onto o10 (by omega); have h10 := (h9.at o10 (fun e => by have := (h.hx.lt _ e).2; omega) (fun e => by have := (h.hy.lt _ e).2; omega)).as (m' := m.away 1) rfl rfl)
    | (refine ld_mc rfl rfl rfl r10 ?_)
    | (refine st_mc rfl rfl rfl rfl z10 (one_own h.hx) (one_own h.hy) ?_; intro w11 r11 o11 s11))
  refine ret_mc2 rfl rfl r11 rfl rfl ?_
  exact ⟨rfl, h10.at o11 (fun e => by have := (h.hx.lt _ e).2; omega) (fun e => by have := (h.hy.lt _ e).2; omega), (((((But.of hB7).trans hb8).new o9 (by omega)).new o10 (by omega)).new o11 (by omega))⟩
theorem l8Call_away2 (hv : v = m.val x y) (h : Ow base w x y m) (hok : m.ok = true) (hc : m.pend = 2) (hs : m.s = false) (he : m.e = true) :
    Calls Tryz.prog 54 #[v] w fun e w' => e = .returned (.tuple #[(m.away 2).val x y, .int .i64 2]) ∧ Ow base w' x y (m.away 2) ∧ But y w w' := by
  obtain ⟨g, hg, hgl⟩ := ram_block h.hy hok
  have hf := inn_true (okm.1 hok).fl
  have HT : Hid ((m.taken 2).ok = true) := taken_ok hok hc (by omega)
  have hpc := (okm.1 hok).pc
  go_enter Tryz.func54, Tryz.ntmps54
  go_wp2_with (first
    | (refine box_m rfl rfl hv ?_; intro w0 r0 hB0)
    | (refine al_mc rfl rfl ?_; intro w1 z1 hB1; have r1 := r0.below hB1; have hB2 := hB0.trans (hB1.mono hB0.size); have l0 := r0.lt; have lz := z1.lt)
    | (refine ld_mc rfl rfl rfl r1 ?_))
  go_at_call 56
  refine (l8Pending_spec _ x y m _ rfl hok).mono ?_
  rintro e w3 ⟨rfl, hb3⟩
  rw [hc]
  have hB4 := hB2.trans (hb3.mono hB2.size)
  have r3 := r1.below hb3
  have z3 := z1.below hb3
  have ks := (cw r3).s
  rw [hs] at ks
  have sB2 := hB2.size
  clear r0 r1 z1 hB0 hB1
  go_wp2_with (first
    | (refine st_yes (m' := m.woken) rfl rfl rfl rfl r3 rfl rfl ?_; intro w4 r4 o4 s4; have z4 := z3.onto o4 (by omega); have hB5 := below_onto hB4 o4 (by omega); have ke : w4.cell? ⟨w.heap.size, 8, none⟩ = some (.bool m.e) := (cw r4).e; rw [he] at ke)
    | (refine st_yes (m' := { m.woken with e := false }) rfl rfl rfl rfl r4 rfl rfl ?_; intro w5 r5 o5 s5; have z5 := z4.onto o5 (by omega); have hB6 := below_onto hB5 o5 (by omega); have kf : w5.cell? ⟨w.heap.size, 11, none⟩ = some (.int .i64 m.fl) := (cw r5).fl)
    | (refine st_num (m' := m.taken 2) rfl rfl rfl rfl r5 rfl rfl ?_; intro w6 r6 o6 s6; have z6 := z5.onto o6 (by omega); have hB7 := below_onto hB6 o6 (by omega); have kp : w6.cell? ⟨w.heap.size, 4, none⟩ = some (.int .i64 m.pc) := (cw r6).pc; have h7 := (h.below hB7).as (m' := m.taken 2) rfl rfl)
    | (refine ld_mc rfl rfl rfl r6 ?_)
    | (go_at_call 123; refine (l7Push_spec rfl h7 HT.out _ hpc).mono ?_; rintro e w8 ⟨rfl, h8, hb8⟩; have z8 := hb8.row hg z6 (by omega); have r8 := hb8.row hg r6 (by omega))
    | (refine st_mc rfl rfl rfl rfl r8 (one_own h.hx) (one_own h.hy) ?_; intro w9 r9 o9 s9; have z9 := z8.onto o9 (by omega); have h9 := h8.at o9 (fun e => by have := (h.hx.lt _ e).2; omega) (fun e => by have := (h.hy.lt _ e).2; omega))
    | (refine st_num (m' := m.away 2) rfl rfl rfl rfl r9 rfl rfl ?_; intro w10 r10 o10 s10; have z10 := z9.onto o10 (by omega); have h10 := (h9.at o10 (fun e => by have := (h.hx.lt _ e).2; omega) (fun e => by have := (h.hy.lt _ e).2; omega)).as (m' := m.away 2) rfl rfl)
    | (refine ld_mc rfl rfl rfl r10 ?_)
    | (refine st_mc rfl rfl rfl rfl z10 (one_own h.hx) (one_own h.hy) ?_; intro w11 r11 o11 s11))
  refine ret_mc2 rfl rfl r11 rfl rfl ?_
  exact ⟨rfl, h10.at o11 (fun e => by have := (h.hx.lt _ e).2; omega) (fun e => by have := (h.hy.lt _ e).2; omega), (((((But.of hB7).trans hb8).new o9 (by omega)).new o10 (by omega)).new o11 (by omega))⟩
theorem l8Call_away (hv : v = m.val x y) (h : Ow base w x y m) (hok : m.ok = true) (i : Int) (hi : i = 0 ∨ i = 1 ∨ i = 2) (hc : m.pend = i) (hs : m.s = false) (he : m.e = true) :
    Calls Tryz.prog 54 #[v] w fun e w' => e = .returned (.tuple #[(m.away i).val x y, .int .i64 i]) ∧ Ow base w' x y (m.away i) ∧ But y w w' := by
  rcases hi with rfl | rfl | rfl
  · exact l8Call_away0 hv h hok hc hs he
  · exact l8Call_away1 hv h hok hc hs he
  · exact l8Call_away2 hv h hok hc hs he
theorem l8Call_spec (hv : v = m.val x y) (h : Ow base w x y m) (hok : m.ok = true) :
    Calls Tryz.prog 54 #[v] w fun e w' => e = .returned (.tuple #[m.call.1.val x y, .int .i64 m.call.2]) ∧ Ow base w' x y m.call.1 ∧ But y w w' := by
  unfold Mc.call
  by_cases hc : m.pend < 0 ∨ m.s = true
  · rw [if_pos hc]; exact l8Call_no hv h hok hc
  · rw [if_neg hc]
    have h0 : ¬ m.pend < 0 := fun e => hc (.inl e)
    have hs : m.s = false := by cases e : m.s; rfl; exact absurd (.inr e) hc
    cases he : m.e
    · rw [if_pos rfl]; exact l8Call_woken hv h hok h0 hs he
    · rw [if_neg (by decide)]
      have hp : m.pend = -1 ∨ m.pend = 0 ∨ m.pend = 1 ∨ m.pend = 2 := pend_in m.fl m.ms
      exact l8Call_away hv h hok m.pend (by omega) rfl hs he
end
/-- What Interrupted answers: a machine of its own, and which one. -/
def AnsI (base : Nat) (w' : World) (e : Ending) (r : Mc × Int) : Prop := ∃ v, e = .returned (.tuple #[v, .int .i64 r.2]) ∧ MOwn base w' v r.1
theorem interrupted_spec (v : Value) (m : Mc) (w : World) (hm : MSl w v m) :
    Calls Tryz.prog 17 #[v] w fun e w' => AnsI w.heap.size w' e m.called ∧ Below w.heap.size w w' := by
  obtain ⟨vr, va, hv, hr, ha⟩ := hm
  cases hok : m.ok
  · have e : m.called = (Mc.nul, -1) := by simp [Mc.called, hok]
    rw [e]
    go_enter Tryz.func17, Tryz.ntmps17
    go_wp2_with (first
      | (refine box_m rfl rfl hv ?_; intro w0 r0 hB0)
      | (refine al_mc rfl rfl ?_; intro w1 z1 hB1; have r1 := r0.below hB1; have hB2 := hB0.trans (hB1.mono hB0.size); have l0 := r0.lt)
      | (refine ld_mc rfl rfl rfl r1 ?_)
      | (go_at_call 10; refine (machineOk_spec _ m _ ⟨vr, va, rfl, hr.below hB2, ha.below hB2⟩).mono ?_; rintro e w2 ⟨rfl, hb2⟩; rw [hok]; have hB3 := hB2.trans (hb2.mono hB2.size); have z2 := z1.below hb2)
      | (refine bd_nul rfl rfl ?_)
      | (refine st_mc rfl rfl rfl rfl z2 rfl rfl ?_; intro w6 r6 o6 s6))
    refine ret_mc2 rfl rfl r6 rfl rfl ?_
    exact ⟨⟨_, rfl, nul_own _ _⟩, below_onto hB3 o6 (by omega)⟩
  · have e : m.called = m.call := by simp [Mc.called, hok]
    rw [e]
    obtain ⟨r, HR⟩ : ∃ r, Hid (r = m.call) := ⟨_, show _ = _ from rfl⟩
    rw [← HR.out]
    clear e
    have hR := Mc.right hok
    have hR1 := hR.rom
    have hR2 : Hid (m.ram.length = 64) := hR.ram
    go_enter Tryz.func17, Tryz.ntmps17
    go_wp2_with (first
      | (refine box_m rfl rfl hv ?_; intro w0 r0 hB0)
      | (refine al_mc rfl rfl ?_; intro w1 z1 hB1; have r1 := r0.below hB1; have hB2 := hB0.trans (hB1.mono hB0.size); have l0 := r0.lt; have lz := z1.lt)
      | (refine ld_mc rfl rfl rfl r1 ?_)
      | (go_at_call 10; refine (machineOk_spec _ m _ ⟨vr, va, rfl, hr.below hB2, ha.below hB2⟩).mono ?_; rintro e w2 ⟨rfl, hb2⟩; rw [hok]; have hB3 := hB2.trans (hb2.mono hB2.size); have z2 := z1.below hb2; replace r1 := r1.below hb2)
      | (go_at_call 36; refine (l6Copy_spec _ m _ ⟨vr, va, rfl, hr.below hB3, ha.below hB3⟩ (by omega) (by have := hR2.out; omega)).mono ?_; rintro e w3 ⟨v3, rfl, ⟨x3, y3, rfl, hx3, hy3, ha3⟩, hb3⟩; have hB4 := hB3.trans (hb3.mono hB3.size); have z3 := z2.below hb3; have s23 := hb3.size; have l2 := z2.lt; have hw3 : Ow w2.heap.size w3 x3 y3 m := ⟨hx3, hy3, ha3, s23⟩; obtain ⟨g, hg, hgl⟩ := ram_block hy3 hok; have hg2 := (hy3.lt _ hg).1)
      | (go_at_call 54; refine (l8Call_spec rfl hw3 hok).mono ?_; rintro e w4 ⟨rfl, h4, hb4⟩; rw [← HR.out] at h4 ⊢; have z4 := hb4.row hg z3 (by omega); have hB5 : Below w.heap.size w w4 := below_onto hB4 (hb4 g hg) (by have := hB3.size; omega))
      | (refine st_mc rfl rfl rfl rfl z4 (one_own h4.hx) (one_own h4.hy) ?_; intro w6 r6 o6 s6))
    refine ret_mc2 rfl rfl r6 rfl rfl ?_
    have h6 := h4.at o6 (fun e => by have := (h4.hx.lt _ e).1; omega) (fun e => by have := (h4.hy.lt _ e).1; omega)
    exact ⟨⟨_, rfl, x3, y3, rfl, h6.hx.mono (by have := hB3.size; omega), h6.hy.mono (by have := hB3.size; omega), h6.ap⟩, below_onto hB5 o6 (by omega)⟩
end Go.Proofs.YtocofjimkfffeaaGreatDoor.Mem
