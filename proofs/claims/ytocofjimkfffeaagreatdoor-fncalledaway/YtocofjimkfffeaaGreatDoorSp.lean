/-
  The processor, as the document's model has it: what each of its functions answers. The model's small functions of the processor: pushing, popping, reckoning, jumping.
-/
import Derived.Test.YtocofjimkfffeaaGreatDoorCp
import Derived.Test.YtocofjimkfffeaaGreatDoorRegs
import Derived.Test.YtocofjimkfffeaaGreatDoorMcWrite
import Derived.Test.YtocofjimkfffeaaGreatDoorOp
namespace Go.Proofs.YtocofjimkfffeaaGreatDoor.Mem
open Go.ChangeShapes Go.WideShapes Go.RowKit Base Num Slc Rw Tmr Srl Rom RomOf Opl Reg
set_option linter.unusedVariables false
set_option linter.unusedSimpArgs false

/-- A machine of one's own, its lists named. -/
structure Ow (base : Nat) (w : World) (x y : Value) (m : Mc) : Prop where
  hx : Own base w x m.rom
  hy : Own base w y m.ram
  ap : ∀ k, x.ownBlock = some k → y.ownBlock ≠ some k
  le : base ≤ w.heap.size
theorem Ow.below {base : Nat} {w w' : World} {x y : Value} {m : Mc} (h : Ow base w x y m) (hb : Below w.heap.size w w') : Ow base w' x y m :=
  ⟨h.hx.below hb, h.hy.below hb, h.ap, Nat.le_trans h.le hb.size⟩
/-- Another machine with the same lists. -/
theorem Ow.as {base : Nat} {w : World} {x y : Value} {m m' : Mc} (h : Ow base w x y m) (h1 : m'.rom = m.rom) (h2 : m'.ram = m.ram) : Ow base w x y m' := ⟨h1 ▸ h.hx, h2 ▸ h.hy, h.ap, h.le⟩
theorem Ow.sl {base : Nat} {w : World} {x y : Value} {m : Mc} (h : Ow base w x y m) : MSl w (m.val x y) m := ⟨x, y, rfl, h.hx.sl, h.hy.sl⟩
theorem Ow.onto {base p : Nat} {w w' : World} {x y : Value} {m : Mc} (h : Ow base w x y m) (ho : Onto p w w') (hp : w.heap.size ≤ p) : Ow base w' x y m :=
  ⟨h.hx.onto ho (fun e => by have := (h.hx.lt _ e).2; omega), h.hy.onto ho (fun e => by have := (h.hy.lt _ e).2; omega), h.ap, Nat.le_trans h.le ho.size⟩
/-- A store into a block of a call's own that is not one of the lists. -/
theorem Ow.at {base p : Nat} {w w' : World} {x y : Value} {m : Mc} (h : Ow base w x y m) (ho : Onto p w w') (h1 : x.ownBlock ≠ some p) (h2 : y.ownBlock ≠ some p) : Ow base w' x y m :=
  ⟨h.hx.onto ho h1, h.hy.onto ho h2, h.ap, Nat.le_trans h.le ho.size⟩
theorem But.refl (y : Value) (w : World) : But y w w := fun _ _ => Onto.refl _ _
theorem But.of {y : Value} {w w' : World} (h : Below w.heap.size w w') : But y w w' := fun _ _ => on_below h
theorem But.trans {y : Value} {a b c : World} (h : But y a b) (k : But y b c) : But y a c := fun g hg => (h g hg).trans (k g hg)
theorem But.new {y : Value} {p : Nat} {a w w' : World} (h : But y a w) (ho : Onto p w w') (hp : a.heap.size ≤ p) : But y a w' := fun g hg => onto_new (h g hg) ho hp
theorem But.row {y : Value} {w w' : World} {b : Nat} {cs : Array Value} {T : TypeId} (h : But y w w') {g : Nat} (hg : y.ownBlock = some g) (hr : Row w b cs T) (hb : g ≠ b) : Row w' b cs T := hr.onto (h g hg) (fun e => hb e.symm)
section
variable {base : Nat} {w : World} {x y v : Value} {m : Mc}
theorem ram_block (h : Own base w y m.ram) (hok : m.ok = true) : ∃ g, y.ownBlock = some g ∧ g < w.heap.size := by
  obtain ⟨g, cap, rfl, h1, h2, h3⟩ := h.block (by have := (okm.1 hok).len; omega)
  exact ⟨g, rfl, h2⟩
theorem write_rom (m : Mc) (q n : Int) : (m.write q n).rom = m.rom := by
  unfold Mc.write
  repeat' split
  all_goals rfl
theorem l7Put_spec (hv : v = m.val x y) (h : Ow base w x y m) (hok : m.ok = true) (q n : Int) (hq : bok q = true) (hn : bok n = true) :
    Calls Tryz.prog 139 #[v, .int .i64 q, .int .i64 n] w fun e w' => e = .returned (.tuple #[(m.write q n).val x y, .int .i64 (outs q n)]) ∧ Ow base w' x y (m.write q n) ∧ But y w w' := by
  obtain ⟨g, hg, hgl⟩ := ram_block h.hy hok
  by_cases e9 : q = 249
  · subst e9
    have hE : Hid (outs 249 n = n ∧ m.write 249 n = m) := show _ ∧ _ from ⟨rfl, write_out m n⟩
    go_enter Tryz.func139, Tryz.ntmps139
    go_wp2_with (first
      | (refine box_m rfl rfl hv ?_; intro w0 r0 hB0)
      | (refine al_mc rfl rfl ?_; intro w1 z1 hB1; have r1 := r0.below hB1; have hB2 := hB0.trans (hB1.mono hB0.size); have l0 := r0.lt; have lz := z1.lt)
      | (refine ld_mc rfl rfl rfl r1 ?_)
      | (refine st_mc rfl rfl rfl rfl z1 (one_own h.hx) (one_own h.hy) ?_; intro w6 r6 o6 s6))
    refine ret_mc2 rfl rfl r6 rfl rfl ?_
    have hB6 := below_onto hB2 o6 (by omega)
    rw [hE.out.1, hE.out.2]
    exact ⟨rfl, h.below hB6, .of hB6⟩
  · have e9' : (q == 249) = false := by simpa using e9
    have hE : Hid (outs q n = -1) := show _ = _ by simp [outs, e9]
    clear e9
    go_enter Tryz.func139, Tryz.ntmps139
    go_wp2_with (first
      | (refine box_m rfl rfl hv ?_; intro w0 r0 hB0)
      | (refine al_mc rfl rfl ?_; intro w1 z1 hB1; have r1 := r0.below hB1; have hB2 := hB0.trans (hB1.mono hB0.size); have l0 := r0.lt; have lz := z1.lt; have h2 := h.below hB2)
      | (refine ld_mc rfl rfl rfl r1 ?_)
      | (go_at_call 148; refine (l6Write_on _ x y m _ _ _ base rfl h2.hx h2.hy h2.ap (Mc.right hok) (bok_iff.1 hq) (bok_iff.1 hn) h2.le).mono ?_; rintro e w3 ⟨v3, rfl, ⟨rfl, hx3, hy3⟩, hb3⟩; have z3 := hb3.row hg z1 (by omega))
      | (refine st_mc rfl rfl rfl rfl z3 (one_own h.hx) (one_own h.hy) ?_; intro w6 r6 o6 s6))
    refine ret_mc2 rfl rfl r6 rfl rfl ?_
    rw [hE.out]
    have h3 : Ow base w3 x y (m.write q n) := ⟨hx3, hy3, h.ap, Nat.le_trans h2.le (hb3 g hg).size⟩
    exact ⟨rfl, h3.at o6 (fun e => by have := (h.hx.lt _ e).2; omega) (fun e => by have := (h.hy.lt _ e).2; omega), ((But.of hB2).trans hb3).new o6 (by omega)⟩
end
end Go.Proofs.YtocofjimkfffeaaGreatDoor.Mem
namespace Go.Proofs.YtocofjimkfffeaaGreatDoor.Mem
open Go.ChangeShapes Go.WideShapes Go.RowKit Base Num Slc Rw Tmr Srl Rom RomOf Opl Reg
set_option linter.unusedVariables false
set_option linter.unusedSimpArgs false
section
variable {base : Nat} {w : World} {x y v : Value} {m : Mc}

theorem l7Push_spec (hv : v = m.val x y) (h : Ow base w x y m) (hok : m.ok = true) (n : Int) (hn : bok n = true) :
    Calls Tryz.prog 123 #[v, .int .i64 n] w fun e w' => e = .returned (.tuple #[(m.psh n).val x y, .int .i64 (m.pshOut n)]) ∧ Ow base w' x y (m.psh n) ∧ But y w w' := by
  obtain ⟨g, hg, hgl⟩ := ram_block h.hy hok
  have hsp := bok_iff.1 (okm.1 hok).sp
  have hrem := rem_pos' (a := m.sp + 255) (r := 256) (by omega)
  have hS : ({ m with sp := (m.sp + 255) % 256 } : Mc).ok = true := ok_sp hok _
  go_enter Tryz.func123, Tryz.ntmps123
  go_wp2_with (first
    | (refine box_m rfl rfl hv ?_; intro w0 r0 hB0)
    | (refine al_mc rfl rfl ?_; intro w1 z1 hB1; have r1 := r0.below hB1; have hB2 := hB0.trans (hB1.mono hB0.size); have l0 := r0.lt; have lz := z1.lt; have h1 := h.below hB2; have ks := (cw r1).sp)
    | (refine st_num (m' := { m with sp := (m.sp + 255) % 256 }) rfl rfl rfl rfl r1 rfl rfl ?_; intro w2 r2 o2 s2; have z2 := z1.onto o2 (by omega); have h2 := (h1.at o2 (fun e => by have := (h.hx.lt _ e).2; omega) (fun e => by have := (h.hy.lt _ e).2; omega)).as (m' := { m with sp := (m.sp + 255) % 256 }) rfl rfl; have ks2 := (cw r2).sp; have hB3 := below_onto hB2 o2 (by omega))
    | (refine ld_mc rfl rfl rfl r2 ?_)
    | (go_at_call 139; refine (l7Put_spec rfl h2 hS _ _ (bok_mod _) hn).mono ?_; rintro e w3 ⟨rfl, h3, hb3⟩; have z3 := hb3.row hg z2 (by omega))
    | (refine st_mc rfl rfl rfl rfl z3 (one_own h.hx) (one_own h.hy) ?_; intro w6 r6 o6 s6))
  refine ret_mc2 rfl rfl r6 rfl rfl ?_
  exact ⟨rfl, h3.at o6 (fun e => by have := (h.hx.lt _ e).2; omega) (fun e => by have := (h.hy.lt _ e).2; omega), ((But.of hB3).trans hb3).new o6 (by omega)⟩
theorem l7Pop_spec (hv : v = m.val x y) (h : Ow base w x y m) (hok : m.ok = true) :
    Calls Tryz.prog 143 #[v] w fun e w' => e = .returned (.tuple #[m.popd.val x y, .int .i64 m.top]) ∧ Ow base w' x y m.popd ∧ Below w.heap.size w w' := by
  have hsp := bok_iff.1 (okm.1 hok).sp
  have hrem := rem_pos' (a := m.sp + 1) (r := 256) (by omega)
  go_enter Tryz.func143, Tryz.ntmps143
  go_wp2_with (first
    | (refine box_m rfl rfl hv ?_; intro w0 r0 hB0)
    | (refine al_mc rfl rfl ?_; intro w1 z1 hB1; have r1 := r0.below hB1; have hB2 := hB0.trans (hB1.mono hB0.size); have l0 := r0.lt; have lz := z1.lt; have h1 := h.below hB2; have ks := (cw r1).sp)
    | (refine ld_mc rfl rfl rfl r1 ?_)
    | (go_at_call 44; refine (l6Read_spec _ m _ _ h1.sl (Mc.right hok) hsp).mono ?_; rintro e w2 ⟨rfl, hb2⟩; have hB3 := hB2.trans (hb2.mono hB2.size); have z2 := z1.below hb2; have r2 := r1.below hb2; have ks2 := (cw r2).sp; clear ks)
    | (refine st_num (m' := m.popd) rfl rfl rfl rfl r2 rfl rfl ?_; intro w3 r3 o3 s3; have z3 := z2.onto o3 (by omega); have hB4 := below_onto hB3 o3 (by omega))
    | (refine ld_mc rfl rfl rfl r3 ?_)
    | (refine st_mc rfl rfl rfl rfl z3 (one_own h.hx) (one_own h.hy) ?_; intro w6 r6 o6 s6))
  refine ret_mc2 rfl rfl r6 rfl rfl ?_
  have hB6 := below_onto hB4 o6 (by omega)
  exact ⟨rfl, (h.below hB6).as rfl rfl, hB6⟩
theorem l7Set_spec (hv : v = m.val x y) (h : Ow base w x y m) (n : Int) (c : Bool) :
    Calls Tryz.prog 153 #[v, .int .i64 n, .bool c] w fun e w' => e = .returned ((m.alu n c).val x y) ∧ Below w.heap.size w w' := by
  go_enter Tryz.func153, Tryz.ntmps153
  go_wp2_with (first
    | (refine box_m rfl rfl hv ?_; intro w0 r0 hB0)
    | (refine al_mc rfl rfl ?_; intro w1 z1 hB1; have r1 := r0.below hB1; have hB2 := hB0.trans (hB1.mono hB0.size); have l0 := r0.lt; have lz := z1.lt; have h1 := h.below hB2)
    | (refine st_num (m' := { m with a := n }) rfl rfl rfl rfl r1 rfl rfl ?_; intro w2 r2 o2 s2; have z2 := z1.onto o2 (by omega); have hB3 := below_onto hB2 o2 (by omega))
    | (refine st_yes (m' := { m with a := n, z := n == 0 }) rfl rfl rfl rfl r2 rfl rfl ?_; intro w3 r3 o3 s3; have z3 := z2.onto o3 (by omega); have hB4 := below_onto hB3 o3 (by omega))
    | (refine st_yes (m' := m.alu n c) rfl rfl rfl rfl r3 rfl rfl ?_; intro w4 r4 o4 s4; have z4 := z3.onto o4 (by omega); have hB5 := below_onto hB4 o4 (by omega))
    | (refine ld_mc rfl rfl rfl r4 ?_)
    | (refine st_mc rfl rfl rfl rfl z4 (one_own h.hx) (one_own h.hy) ?_; intro w6 r6 o6 s6))
  refine ret_mc rfl rfl r6 rfl ?_
  exact ⟨rfl, below_onto hB5 o6 (by omega)⟩
theorem l7CountB_17 (hv : v = m.val x y) (h : Ow base w x y m) :
    Calls Tryz.prog 141 #[v, .int .i64 17] w fun e w' => e = .returned ((m.cntB (addB m.b 1)).val x y) ∧ Below w.heap.size w w' := by
  obtain ⟨B, HB⟩ : ∃ B, Hid (B = addB m.b 1) := ⟨_, show _ = _ from rfl⟩
  rw [← HB.out]
  go_enter Tryz.func141, Tryz.ntmps141
  go_wp2_with (first
    | (refine box_m rfl rfl hv ?_; intro w0 r0 hB0)
    | (refine al_mc rfl rfl ?_; intro w1 z1 hB1; have r1 := r0.below hB1; have hB2 := hB0.trans (hB1.mono hB0.size); have l0 := r0.lt; have lz := z1.lt; have h1 := h.below hB2; have kb := (cw r1).b)
    | (go_at_call 149; refine (addByte_spec _ _ _).mono ?_; rintro e w9 ⟨rfl, rfl⟩; rw [← HB.out])
    | (refine st_num (m' := { m with b := B }) rfl rfl rfl rfl r1 rfl rfl ?_; intro w2 r2 o2 s2; have z2 := z1.onto o2 (by omega); have hB3 := below_onto hB2 o2 (by omega); have kb2 := (cw r2).b)
    | (refine st_yes (m' := { m with b := B, z := B == 0 }) rfl rfl rfl rfl r2 rfl rfl ?_; intro w3 r3 o3 s3; have z3 := z2.onto o3 (by omega); have hB4 := below_onto hB3 o3 (by omega))
    | (refine st_yes (m' := m.cntB B) rfl rfl rfl rfl r3 rfl rfl ?_; intro w4 r4 o4 s4; have z4 := z3.onto o4 (by omega); have hB5 := below_onto hB4 o4 (by omega))
    | (refine ld_mc rfl rfl rfl r4 ?_)
    | (refine st_mc rfl rfl rfl rfl z4 (one_own h.hx) (one_own h.hy) ?_; intro w6 r6 o6 s6))
  refine ret_mc rfl rfl r6 rfl ?_
  exact ⟨rfl, below_onto hB5 o6 (by omega)⟩
theorem l7CountB_18 (hv : v = m.val x y) (h : Ow base w x y m) :
    Calls Tryz.prog 141 #[v, .int .i64 18] w fun e w' => e = .returned ((m.cntB (subB m.b 1)).val x y) ∧ Below w.heap.size w w' := by
  obtain ⟨B, HB⟩ : ∃ B, Hid (B = subB m.b 1) := ⟨_, show _ = _ from rfl⟩
  rw [← HB.out]
  go_enter Tryz.func141, Tryz.ntmps141
  go_wp2_with (first
    | (refine box_m rfl rfl hv ?_; intro w0 r0 hB0)
    | (refine al_mc rfl rfl ?_; intro w1 z1 hB1; have r1 := r0.below hB1; have hB2 := hB0.trans (hB1.mono hB0.size); have l0 := r0.lt; have lz := z1.lt; have h1 := h.below hB2; have kb := (cw r1).b)
    | (go_at_call 150; refine (subByte_spec _ _ _).mono ?_; rintro e w9 ⟨rfl, rfl⟩; rw [← HB.out])
    | (refine st_num (m' := { m with b := B }) rfl rfl rfl rfl r1 rfl rfl ?_; intro w2 r2 o2 s2; have z2 := z1.onto o2 (by omega); have hB3 := below_onto hB2 o2 (by omega); have kb2 := (cw r2).b)
    | (refine st_yes (m' := { m with b := B, z := B == 0 }) rfl rfl rfl rfl r2 rfl rfl ?_; intro w3 r3 o3 s3; have z3 := z2.onto o3 (by omega); have hB4 := below_onto hB3 o3 (by omega))
    | (refine st_yes (m' := m.cntB B) rfl rfl rfl rfl r3 rfl rfl ?_; intro w4 r4 o4 s4; have z4 := z3.onto o4 (by omega); have hB5 := below_onto hB4 o4 (by omega))
    | (refine ld_mc rfl rfl rfl r4 ?_)
    | (refine st_mc rfl rfl rfl rfl z4 (one_own h.hx) (one_own h.hy) ?_; intro w6 r6 o6 s6))
  refine ret_mc rfl rfl r6 rfl ?_
  exact ⟨rfl, below_onto hB5 o6 (by omega)⟩
theorem l7Alu_9 (hv : v = m.val x y) (h : Ow base w x y m) (n : Int) :
    Calls Tryz.prog 140 #[v, .int .i64 9, .int .i64 n] w fun e w' => e = .returned ((m.does n 9).1.val x y) ∧ Below w.heap.size w w' := by
  go_enter Tryz.func140, Tryz.ntmps140
  go_wp2_with (first
    | (refine box_m rfl rfl hv ?_; intro w0 r0 hB0)
    | (refine al_mc rfl rfl ?_; intro w1 z1 hB1; have r1 := r0.below hB1; have hB2 := hB0.trans (hB1.mono hB0.size); have l0 := r0.lt; have lz := z1.lt; have h1 := h.below hB2; have ka := (cw r1).a)
    | (go_at_call 149; refine (addByte_spec _ _ _).mono ?_; rintro e w9 ⟨rfl, rfl⟩)
    | (refine ld_mc rfl rfl rfl r1 ?_)
    | (go_at_call 153; refine (l7Set_spec rfl h1 (addB m.a n) (addC m.a n)).mono ?_; rintro e w2 ⟨rfl, hb2⟩; have hB3 := hB2.trans (hb2.mono hB2.size); have z2 := z1.below hb2; have r2 := r1.below hb2)
    | (refine st_mc rfl rfl rfl rfl r2 (one_own h.hx) (one_own h.hy) ?_; intro w3 r3 o3 s3; have z3 := z2.onto o3 (by omega); have hB4 := below_onto hB3 o3 (by omega))
    | (refine ld_mc rfl rfl rfl r3 ?_)
    | (refine st_mc rfl rfl rfl rfl z3 (one_own h.hx) (one_own h.hy) ?_; intro w6 r6 o6 s6))
  refine ret_mc rfl rfl r6 rfl ?_
  exact ⟨rfl, below_onto hB4 o6 (by omega)⟩
theorem l7Alu_10 (hv : v = m.val x y) (h : Ow base w x y m) (n : Int) :
    Calls Tryz.prog 140 #[v, .int .i64 10, .int .i64 n] w fun e w' => e = .returned ((m.does n 10).1.val x y) ∧ Below w.heap.size w w' := by
  go_enter Tryz.func140, Tryz.ntmps140
  go_wp2_with (first
    | (refine box_m rfl rfl hv ?_; intro w0 r0 hB0)
    | (refine al_mc rfl rfl ?_; intro w1 z1 hB1; have r1 := r0.below hB1; have hB2 := hB0.trans (hB1.mono hB0.size); have l0 := r0.lt; have lz := z1.lt; have h1 := h.below hB2; have ka := (cw r1).a; have kb := (cw r1).b)
    | (go_at_call 149; refine (addByte_spec _ _ _).mono ?_; rintro e w9 ⟨rfl, rfl⟩)
    | (refine ld_mc rfl rfl rfl r1 ?_)
    | (go_at_call 153; refine (l7Set_spec rfl h1 (addB m.a m.b) (addC m.a m.b)).mono ?_; rintro e w2 ⟨rfl, hb2⟩; have hB3 := hB2.trans (hb2.mono hB2.size); have z2 := z1.below hb2; have r2 := r1.below hb2)
    | (refine st_mc rfl rfl rfl rfl r2 (one_own h.hx) (one_own h.hy) ?_; intro w3 r3 o3 s3; have z3 := z2.onto o3 (by omega); have hB4 := below_onto hB3 o3 (by omega))
    | (refine ld_mc rfl rfl rfl r3 ?_)
    | (refine st_mc rfl rfl rfl rfl z3 (one_own h.hx) (one_own h.hy) ?_; intro w6 r6 o6 s6))
  refine ret_mc rfl rfl r6 rfl ?_
  exact ⟨rfl, below_onto hB4 o6 (by omega)⟩
theorem l7Alu_11 (hv : v = m.val x y) (h : Ow base w x y m) (n : Int) :
    Calls Tryz.prog 140 #[v, .int .i64 11, .int .i64 n] w fun e w' => e = .returned ((m.does n 11).1.val x y) ∧ Below w.heap.size w w' := by
  go_enter Tryz.func140, Tryz.ntmps140
  go_wp2_with (first
    | (refine box_m rfl rfl hv ?_; intro w0 r0 hB0)
    | (refine al_mc rfl rfl ?_; intro w1 z1 hB1; have r1 := r0.below hB1; have hB2 := hB0.trans (hB1.mono hB0.size); have l0 := r0.lt; have lz := z1.lt; have h1 := h.below hB2; have ka := (cw r1).a)
    | (go_at_call 150; refine (subByte_spec _ _ _).mono ?_; rintro e w9 ⟨rfl, rfl⟩)
    | (refine ld_mc rfl rfl rfl r1 ?_)
    | (go_at_call 153; refine (l7Set_spec rfl h1 (subB m.a n) (subC m.a n)).mono ?_; rintro e w2 ⟨rfl, hb2⟩; have hB3 := hB2.trans (hb2.mono hB2.size); have z2 := z1.below hb2; have r2 := r1.below hb2)
    | (refine st_mc rfl rfl rfl rfl r2 (one_own h.hx) (one_own h.hy) ?_; intro w3 r3 o3 s3; have z3 := z2.onto o3 (by omega); have hB4 := below_onto hB3 o3 (by omega))
    | (refine ld_mc rfl rfl rfl r3 ?_)
    | (refine st_mc rfl rfl rfl rfl z3 (one_own h.hx) (one_own h.hy) ?_; intro w6 r6 o6 s6))
  refine ret_mc rfl rfl r6 rfl ?_
  exact ⟨rfl, below_onto hB4 o6 (by omega)⟩
theorem l7Alu_12 (hv : v = m.val x y) (h : Ow base w x y m) (n : Int) :
    Calls Tryz.prog 140 #[v, .int .i64 12, .int .i64 n] w fun e w' => e = .returned ((m.does n 12).1.val x y) ∧ Below w.heap.size w w' := by
  go_enter Tryz.func140, Tryz.ntmps140
  go_wp2_with (first
    | (refine box_m rfl rfl hv ?_; intro w0 r0 hB0)
    | (refine al_mc rfl rfl ?_; intro w1 z1 hB1; have r1 := r0.below hB1; have hB2 := hB0.trans (hB1.mono hB0.size); have l0 := r0.lt; have lz := z1.lt; have h1 := h.below hB2; have ka := (cw r1).a)
    | (go_at_call 150; refine (subByte_spec _ _ _).mono ?_; rintro e w9 ⟨rfl, rfl⟩)
    | (refine ld_mc rfl rfl rfl r1 ?_)
    | (go_at_call 153; refine (l7Set_spec rfl h1 (subB m.a n) (subC m.a n)).mono ?_; rintro e w2 ⟨rfl, hb2⟩; have hB3 := hB2.trans (hb2.mono hB2.size); have z2 := z1.below hb2; have r2 := r1.below hb2)
    | (refine st_mc rfl rfl rfl rfl r2 (one_own h.hx) (one_own h.hy) ?_; intro w3 r3 o3 s3; have z3 := z2.onto o3 (by omega); have hB4 := below_onto hB3 o3 (by omega))
    | (refine st_num (m' := m.cmp (subB m.a n) (subC m.a n)) rfl rfl rfl rfl r3 rfl rfl ?_; intro w4 r4 o4 s4; have z4 := z3.onto o4 (by omega); have hB5 := below_onto hB4 o4 (by omega))
    | (refine ld_mc rfl rfl rfl r4 ?_)
    | (refine st_mc rfl rfl rfl rfl z4 (one_own h.hx) (one_own h.hy) ?_; intro w6 r6 o6 s6))
  refine ret_mc rfl rfl r6 rfl ?_
  exact ⟨rfl, below_onto hB5 o6 (by omega)⟩
theorem l7Alu_13 (hv : v = m.val x y) (h : Ow base w x y m) (n : Int) :
    Calls Tryz.prog 140 #[v, .int .i64 13, .int .i64 n] w fun e w' => e = .returned ((m.does n 13).1.val x y) ∧ Below w.heap.size w w' := by
  go_enter Tryz.func140, Tryz.ntmps140
  go_wp2_with (first
    | (refine box_m rfl rfl hv ?_; intro w0 r0 hB0)
    | (refine al_mc rfl rfl ?_; intro w1 z1 hB1; have r1 := r0.below hB1; have hB2 := hB0.trans (hB1.mono hB0.size); have l0 := r0.lt; have lz := z1.lt; have h1 := h.below hB2; have ka := (cw r1).a)
    | (refine ld_mc rfl rfl rfl r1 ?_)
    | (go_at_call 153; refine (l7Set_spec rfl h1 (bits .and .i64 m.a n) (false)).mono ?_; rintro e w2 ⟨rfl, hb2⟩; have hB3 := hB2.trans (hb2.mono hB2.size); have z2 := z1.below hb2; have r2 := r1.below hb2)
    | (refine st_mc rfl rfl rfl rfl r2 (one_own h.hx) (one_own h.hy) ?_; intro w3 r3 o3 s3; have z3 := z2.onto o3 (by omega); have hB4 := below_onto hB3 o3 (by omega))
    | (refine ld_mc rfl rfl rfl r3 ?_)
    | (refine st_mc rfl rfl rfl rfl z3 (one_own h.hx) (one_own h.hy) ?_; intro w6 r6 o6 s6))
  refine ret_mc rfl rfl r6 rfl ?_
  exact ⟨rfl, below_onto hB4 o6 (by omega)⟩
theorem l7Alu_14 (hv : v = m.val x y) (h : Ow base w x y m) (n : Int) :
    Calls Tryz.prog 140 #[v, .int .i64 14, .int .i64 n] w fun e w' => e = .returned ((m.does n 14).1.val x y) ∧ Below w.heap.size w w' := by
  go_enter Tryz.func140, Tryz.ntmps140
  go_wp2_with (first
    | (refine box_m rfl rfl hv ?_; intro w0 r0 hB0)
    | (refine al_mc rfl rfl ?_; intro w1 z1 hB1; have r1 := r0.below hB1; have hB2 := hB0.trans (hB1.mono hB0.size); have l0 := r0.lt; have lz := z1.lt; have h1 := h.below hB2; have ka := (cw r1).a)
    | (refine ld_mc rfl rfl rfl r1 ?_)
    | (go_at_call 153; refine (l7Set_spec rfl h1 (bits .xor .i64 m.a n) (false)).mono ?_; rintro e w2 ⟨rfl, hb2⟩; have hB3 := hB2.trans (hb2.mono hB2.size); have z2 := z1.below hb2; have r2 := r1.below hb2)
    | (refine st_mc rfl rfl rfl rfl r2 (one_own h.hx) (one_own h.hy) ?_; intro w3 r3 o3 s3; have z3 := z2.onto o3 (by omega); have hB4 := below_onto hB3 o3 (by omega))
    | (refine ld_mc rfl rfl rfl r3 ?_)
    | (refine st_mc rfl rfl rfl rfl z3 (one_own h.hx) (one_own h.hy) ?_; intro w6 r6 o6 s6))
  refine ret_mc rfl rfl r6 rfl ?_
  exact ⟨rfl, below_onto hB4 o6 (by omega)⟩
theorem l7Alu_15 (hv : v = m.val x y) (h : Ow base w x y m) (n : Int) :
    Calls Tryz.prog 140 #[v, .int .i64 15, .int .i64 n] w fun e w' => e = .returned ((m.does n 15).1.val x y) ∧ Below w.heap.size w w' := by
  go_enter Tryz.func140, Tryz.ntmps140
  go_wp2_with (first
    | (refine box_m rfl rfl hv ?_; intro w0 r0 hB0)
    | (refine al_mc rfl rfl ?_; intro w1 z1 hB1; have r1 := r0.below hB1; have hB2 := hB0.trans (hB1.mono hB0.size); have l0 := r0.lt; have lz := z1.lt; have h1 := h.below hB2; have ka := (cw r1).a)
    | (go_at_call 151; refine (turnedLeft_spec _ _).mono ?_; rintro e w9 ⟨rfl, rfl⟩)
    | (refine ld_mc rfl rfl rfl r1 ?_)
    | (go_at_call 153; refine (l7Set_spec rfl h1 (turnLB m.a) (turnLC m.a)).mono ?_; rintro e w2 ⟨rfl, hb2⟩; have hB3 := hB2.trans (hb2.mono hB2.size); have z2 := z1.below hb2; have r2 := r1.below hb2)
    | (refine st_mc rfl rfl rfl rfl r2 (one_own h.hx) (one_own h.hy) ?_; intro w3 r3 o3 s3; have z3 := z2.onto o3 (by omega); have hB4 := below_onto hB3 o3 (by omega))
    | (refine ld_mc rfl rfl rfl r3 ?_)
    | (refine st_mc rfl rfl rfl rfl z3 (one_own h.hx) (one_own h.hy) ?_; intro w6 r6 o6 s6))
  refine ret_mc rfl rfl r6 rfl ?_
  exact ⟨rfl, below_onto hB4 o6 (by omega)⟩
theorem l7Alu_16 (hv : v = m.val x y) (h : Ow base w x y m) (n : Int) :
    Calls Tryz.prog 140 #[v, .int .i64 16, .int .i64 n] w fun e w' => e = .returned ((m.does n 16).1.val x y) ∧ Below w.heap.size w w' := by
  go_enter Tryz.func140, Tryz.ntmps140
  go_wp2_with (first
    | (refine box_m rfl rfl hv ?_; intro w0 r0 hB0)
    | (refine al_mc rfl rfl ?_; intro w1 z1 hB1; have r1 := r0.below hB1; have hB2 := hB0.trans (hB1.mono hB0.size); have l0 := r0.lt; have lz := z1.lt; have h1 := h.below hB2; have ka := (cw r1).a)
    | (go_at_call 152; refine (turnedRight_spec _ _).mono ?_; rintro e w9 ⟨rfl, rfl⟩)
    | (refine ld_mc rfl rfl rfl r1 ?_)
    | (go_at_call 153; refine (l7Set_spec rfl h1 (turnRB m.a) (turnRC m.a)).mono ?_; rintro e w2 ⟨rfl, hb2⟩; have hB3 := hB2.trans (hb2.mono hB2.size); have z2 := z1.below hb2; have r2 := r1.below hb2)
    | (refine st_mc rfl rfl rfl rfl r2 (one_own h.hx) (one_own h.hy) ?_; intro w3 r3 o3 s3; have z3 := z2.onto o3 (by omega); have hB4 := below_onto hB3 o3 (by omega))
    | (refine ld_mc rfl rfl rfl r3 ?_)
    | (refine st_mc rfl rfl rfl rfl z3 (one_own h.hx) (one_own h.hy) ?_; intro w6 r6 o6 s6))
  refine ret_mc rfl rfl r6 rfl ?_
  exact ⟨rfl, below_onto hB4 o6 (by omega)⟩
theorem l7Jump_19 (hv : v = m.val x y) (h : Ow base w x y m) (hok : m.ok = true) (n : Int) :
    Calls Tryz.prog 142 #[v, .int .i64 19, .int .i64 n] w fun e w' => e = .returned (.tuple #[(m.does n 19).1.val x y, .int .i64 (m.does n 19).2]) ∧ Ow base w' x y (m.does n 19).1 ∧ But y w w' := by
  have hE : Hid ((m.does n 19).1 = { m with pc := n }) := show _ = _ by simp [Mc.does, Mc.jmp]
  have hE2 : Hid ((m.does n 19).2 = -1) := show _ = _ from rfl
  rw [hE.out, hE2.out]
  go_enter Tryz.func142, Tryz.ntmps142
  go_wp2_with (first
    | (refine box_m rfl rfl hv ?_; intro w0 r0 hB0)
    | (refine al_mc rfl rfl ?_; intro w1 z1 hB1; have r1 := r0.below hB1; have hB2 := hB0.trans (hB1.mono hB0.size); have l0 := r0.lt; have lz := z1.lt; have h1 := h.below hB2)
    | (refine st_num (m' := { m with pc := n }) rfl rfl rfl rfl r1 rfl rfl ?_; intro w2 r2 o2 s2; have z2 := z1.onto o2 (by omega); have hB4 := below_onto hB2 o2 (by omega))
    | (refine ld_mc rfl rfl rfl r2 ?_)
    | (refine st_mc rfl rfl rfl rfl z2 (one_own h.hx) (one_own h.hy) ?_; intro w6 r6 o6 s6))
  refine ret_mc2 rfl rfl r6 rfl rfl ?_
  have hB6 := below_onto hB4 o6 (by omega)
  exact ⟨rfl, (h.below hB6).as rfl rfl, .of hB6⟩
theorem l7Jump_20_t (hv : v = m.val x y) (h : Ow base w x y m) (hok : m.ok = true) (n : Int) (hc : m.z = true) :
    Calls Tryz.prog 142 #[v, .int .i64 20, .int .i64 n] w fun e w' => e = .returned (.tuple #[(m.does n 20).1.val x y, .int .i64 (m.does n 20).2]) ∧ Ow base w' x y (m.does n 20).1 ∧ But y w w' := by
  have hE : Hid ((m.does n 20).1 = { m with pc := n }) := show _ = _ by simp [Mc.does, Mc.jmp, hc]
  have hE2 : Hid ((m.does n 20).2 = -1) := show _ = _ from rfl
  rw [hE.out, hE2.out]
  go_enter Tryz.func142, Tryz.ntmps142
  go_wp2_with (first
    | (refine box_m rfl rfl hv ?_; intro w0 r0 hB0)
    | (refine al_mc rfl rfl ?_; intro w1 z1 hB1; have r1 := r0.below hB1; have hB2 := hB0.trans (hB1.mono hB0.size); have l0 := r0.lt; have lz := z1.lt; have h1 := h.below hB2; have kz := (cw r1).z; rw [hc] at kz)
    | (refine st_num (m' := { m with pc := n }) rfl rfl rfl rfl r1 rfl rfl ?_; intro w2 r2 o2 s2; have z2 := z1.onto o2 (by omega); have hB4 := below_onto hB2 o2 (by omega))
    | (refine ld_mc rfl rfl rfl r2 ?_)
    | (refine st_mc rfl rfl rfl rfl z2 (one_own h.hx) (one_own h.hy) ?_; intro w6 r6 o6 s6))
  refine ret_mc2 rfl rfl r6 rfl rfl ?_
  have hB6 := below_onto hB4 o6 (by omega)
  exact ⟨by rw [hc]; rfl, (h.below hB6).as rfl rfl, .of hB6⟩
theorem l7Jump_20_f (hv : v = m.val x y) (h : Ow base w x y m) (hok : m.ok = true) (n : Int) (hc : m.z = false) :
    Calls Tryz.prog 142 #[v, .int .i64 20, .int .i64 n] w fun e w' => e = .returned (.tuple #[(m.does n 20).1.val x y, .int .i64 (m.does n 20).2]) ∧ Ow base w' x y (m.does n 20).1 ∧ But y w w' := by
  have hE : Hid ((m.does n 20).1 = m) := show _ = _ by simp [Mc.does, Mc.jmp, hc]
  have hE2 : Hid ((m.does n 20).2 = -1) := show _ = _ from rfl
  rw [hE.out, hE2.out]
  go_enter Tryz.func142, Tryz.ntmps142
  go_wp2_with (first
    | (refine box_m rfl rfl hv ?_; intro w0 r0 hB0)
    | (refine al_mc rfl rfl ?_; intro w1 z1 hB1; have r1 := r0.below hB1; have hB2 := hB0.trans (hB1.mono hB0.size); have l0 := r0.lt; have lz := z1.lt; have h1 := h.below hB2; have kz := (cw r1).z; rw [hc] at kz; have hB4 := hB2)
    | (refine ld_mc rfl rfl rfl r1 ?_)
    | (refine st_mc rfl rfl rfl rfl z1 (one_own h.hx) (one_own h.hy) ?_; intro w6 r6 o6 s6))
  refine ret_mc2 rfl rfl r6 rfl rfl ?_
  have hB6 := below_onto hB4 o6 (by omega)
  exact ⟨rfl, (h.below hB6).as rfl rfl, .of hB6⟩
theorem l7Jump_21_t (hv : v = m.val x y) (h : Ow base w x y m) (hok : m.ok = true) (n : Int) (hc : m.z = true) :
    Calls Tryz.prog 142 #[v, .int .i64 21, .int .i64 n] w fun e w' => e = .returned (.tuple #[(m.does n 21).1.val x y, .int .i64 (m.does n 21).2]) ∧ Ow base w' x y (m.does n 21).1 ∧ But y w w' := by
  have hE : Hid ((m.does n 21).1 = m) := show _ = _ by simp [Mc.does, Mc.jmp, hc]
  have hE2 : Hid ((m.does n 21).2 = -1) := show _ = _ from rfl
  rw [hE.out, hE2.out]
  go_enter Tryz.func142, Tryz.ntmps142
  go_wp2_with (first
    | (refine box_m rfl rfl hv ?_; intro w0 r0 hB0)
    | (refine al_mc rfl rfl ?_; intro w1 z1 hB1; have r1 := r0.below hB1; have hB2 := hB0.trans (hB1.mono hB0.size); have l0 := r0.lt; have lz := z1.lt; have h1 := h.below hB2; have kz := (cw r1).z; rw [hc] at kz; have hB4 := hB2)
    | (refine ld_mc rfl rfl rfl r1 ?_)
    | (refine st_mc rfl rfl rfl rfl z1 (one_own h.hx) (one_own h.hy) ?_; intro w6 r6 o6 s6))
  refine ret_mc2 rfl rfl r6 rfl rfl ?_
  have hB6 := below_onto hB4 o6 (by omega)
  exact ⟨rfl, (h.below hB6).as rfl rfl, .of hB6⟩
theorem l7Jump_21_f (hv : v = m.val x y) (h : Ow base w x y m) (hok : m.ok = true) (n : Int) (hc : m.z = false) :
    Calls Tryz.prog 142 #[v, .int .i64 21, .int .i64 n] w fun e w' => e = .returned (.tuple #[(m.does n 21).1.val x y, .int .i64 (m.does n 21).2]) ∧ Ow base w' x y (m.does n 21).1 ∧ But y w w' := by
  have hE : Hid ((m.does n 21).1 = { m with pc := n }) := show _ = _ by simp [Mc.does, Mc.jmp, hc]
  have hE2 : Hid ((m.does n 21).2 = -1) := show _ = _ from rfl
  rw [hE.out, hE2.out]
  go_enter Tryz.func142, Tryz.ntmps142
  go_wp2_with (first
    | (refine box_m rfl rfl hv ?_; intro w0 r0 hB0)
    | (refine al_mc rfl rfl ?_; intro w1 z1 hB1; have r1 := r0.below hB1; have hB2 := hB0.trans (hB1.mono hB0.size); have l0 := r0.lt; have lz := z1.lt; have h1 := h.below hB2; have kz := (cw r1).z; rw [hc] at kz)
    | (refine st_num (m' := { m with pc := n }) rfl rfl rfl rfl r1 rfl rfl ?_; intro w2 r2 o2 s2; have z2 := z1.onto o2 (by omega); have hB4 := below_onto hB2 o2 (by omega))
    | (refine ld_mc rfl rfl rfl r2 ?_)
    | (refine st_mc rfl rfl rfl rfl z2 (one_own h.hx) (one_own h.hy) ?_; intro w6 r6 o6 s6))
  refine ret_mc2 rfl rfl r6 rfl rfl ?_
  have hB6 := below_onto hB4 o6 (by omega)
  exact ⟨by rw [hc]; rfl, (h.below hB6).as rfl rfl, .of hB6⟩
theorem l7Jump_22_t (hv : v = m.val x y) (h : Ow base w x y m) (hok : m.ok = true) (n : Int) (hc : m.c = true) :
    Calls Tryz.prog 142 #[v, .int .i64 22, .int .i64 n] w fun e w' => e = .returned (.tuple #[(m.does n 22).1.val x y, .int .i64 (m.does n 22).2]) ∧ Ow base w' x y (m.does n 22).1 ∧ But y w w' := by
  have hE : Hid ((m.does n 22).1 = { m with pc := n }) := show _ = _ by simp [Mc.does, Mc.jmp, hc]
  have hE2 : Hid ((m.does n 22).2 = -1) := show _ = _ from rfl
  rw [hE.out, hE2.out]
  go_enter Tryz.func142, Tryz.ntmps142
  go_wp2_with (first
    | (refine box_m rfl rfl hv ?_; intro w0 r0 hB0)
    | (refine al_mc rfl rfl ?_; intro w1 z1 hB1; have r1 := r0.below hB1; have hB2 := hB0.trans (hB1.mono hB0.size); have l0 := r0.lt; have lz := z1.lt; have h1 := h.below hB2; have kz := (cw r1).c; rw [hc] at kz)
    | (refine st_num (m' := { m with pc := n }) rfl rfl rfl rfl r1 rfl rfl ?_; intro w2 r2 o2 s2; have z2 := z1.onto o2 (by omega); have hB4 := below_onto hB2 o2 (by omega))
    | (refine ld_mc rfl rfl rfl r2 ?_)
    | (refine st_mc rfl rfl rfl rfl z2 (one_own h.hx) (one_own h.hy) ?_; intro w6 r6 o6 s6))
  refine ret_mc2 rfl rfl r6 rfl rfl ?_
  have hB6 := below_onto hB4 o6 (by omega)
  exact ⟨by rw [hc]; rfl, (h.below hB6).as rfl rfl, .of hB6⟩
theorem l7Jump_22_f (hv : v = m.val x y) (h : Ow base w x y m) (hok : m.ok = true) (n : Int) (hc : m.c = false) :
    Calls Tryz.prog 142 #[v, .int .i64 22, .int .i64 n] w fun e w' => e = .returned (.tuple #[(m.does n 22).1.val x y, .int .i64 (m.does n 22).2]) ∧ Ow base w' x y (m.does n 22).1 ∧ But y w w' := by
  have hE : Hid ((m.does n 22).1 = m) := show _ = _ by simp [Mc.does, Mc.jmp, hc]
  have hE2 : Hid ((m.does n 22).2 = -1) := show _ = _ from rfl
  rw [hE.out, hE2.out]
  go_enter Tryz.func142, Tryz.ntmps142
  go_wp2_with (first
    | (refine box_m rfl rfl hv ?_; intro w0 r0 hB0)
    | (refine al_mc rfl rfl ?_; intro w1 z1 hB1; have r1 := r0.below hB1; have hB2 := hB0.trans (hB1.mono hB0.size); have l0 := r0.lt; have lz := z1.lt; have h1 := h.below hB2; have kz := (cw r1).c; rw [hc] at kz; have hB4 := hB2)
    | (refine ld_mc rfl rfl rfl r1 ?_)
    | (refine st_mc rfl rfl rfl rfl z1 (one_own h.hx) (one_own h.hy) ?_; intro w6 r6 o6 s6))
  refine ret_mc2 rfl rfl r6 rfl rfl ?_
  have hB6 := below_onto hB4 o6 (by omega)
  exact ⟨rfl, (h.below hB6).as rfl rfl, .of hB6⟩
theorem l7Jump_23 (hv : v = m.val x y) (h : Ow base w x y m) (hok : m.ok = true) (n : Int) :
    Calls Tryz.prog 142 #[v, .int .i64 23, .int .i64 n] w fun e w' => e = .returned (.tuple #[(m.does n 23).1.val x y, .int .i64 (m.does n 23).2]) ∧ Ow base w' x y (m.does n 23).1 ∧ But y w w' := by
  obtain ⟨g, hg, hgl⟩ := ram_block h.hy hok
  go_enter Tryz.func142, Tryz.ntmps142
  go_wp2_with (first
    | (refine box_m rfl rfl hv ?_; intro w0 r0 hB0)
    | (refine al_mc rfl rfl ?_; intro w1 z1 hB1; have r1 := r0.below hB1; have hB2 := hB0.trans (hB1.mono hB0.size); have l0 := r0.lt; have lz := z1.lt; have h1 := h.below hB2; have kp := (cw r1).pc)
    | (refine ld_mc rfl rfl rfl r1 ?_)
    | (go_at_call 123; refine (l7Push_spec rfl h1 hok _ (okm.1 hok).pc).mono ?_; rintro e w3 ⟨rfl, h3, hb3⟩; have z3 := hb3.row hg z1 (by omega); have r3 := hb3.row hg r1 (by omega))
    | (refine st_mc rfl rfl rfl rfl r3 (one_own h.hx) (one_own h.hy) ?_; intro w4 r4 o4 s4; have z4 := z3.onto o4 (by omega); have h4 := h3.at o4 (fun e => by have := (h.hx.lt _ e).2; omega) (fun e => by have := (h.hy.lt _ e).2; omega))
    | (refine st_num (m' := (m.does n 23).1) rfl rfl rfl rfl r4 rfl rfl ?_; intro w5 r5 o5 s5; have z5 := z4.onto o5 (by omega); have h5 := (h4.at o5 (fun e => by have := (h.hx.lt _ e).2; omega) (fun e => by have := (h.hy.lt _ e).2; omega)).as (m' := (m.does n 23).1) rfl rfl)
    | (refine ld_mc rfl rfl rfl r5 ?_)
    | (refine st_mc rfl rfl rfl rfl z5 (one_own h.hx) (one_own h.hy) ?_; intro w6 r6 o6 s6))
  refine ret_mc2 rfl rfl r6 rfl rfl ?_
  exact ⟨rfl, h5.at o6 (fun e => by have := (h.hx.lt _ e).2; omega) (fun e => by have := (h.hy.lt _ e).2; omega), (((((But.of hB2).trans hb3).new o4 (by omega)).new o5 (by omega)).new o6 (by omega))⟩
theorem l7Jump_24_t (hv : v = m.val x y) (h : Ow base w x y m) (hok : m.ok = true) (n : Int) (he : m.e = true) :
    Calls Tryz.prog 142 #[v, .int .i64 24, .int .i64 n] w fun e w' => e = .returned (.tuple #[(m.does n 24).1.val x y, .int .i64 (m.does n 24).2]) ∧ Ow base w' x y (m.does n 24).1 ∧ But y w w' := by
  have hE : Hid ((m.does n 24).1 = { m.popd with pc := m.top, e := true }) := show _ = _ by simp [Mc.does, Mc.popd, he]
  have hE2 : Hid ((m.does n 24).2 = -1) := show _ = _ from rfl
  rw [hE.out, hE2.out]
  go_enter Tryz.func142, Tryz.ntmps142
  go_wp2_with (first
    | (refine box_m rfl rfl hv ?_; intro w0 r0 hB0)
    | (refine al_mc rfl rfl ?_; intro w1 z1 hB1; have r1 := r0.below hB1; have hB2 := hB0.trans (hB1.mono hB0.size); have l0 := r0.lt; have lz := z1.lt; have h1 := h.below hB2)
    | (refine ld_mc rfl rfl rfl r1 ?_)
    | (go_at_call 143; refine (l7Pop_spec rfl h1 hok).mono ?_; rintro e w2 ⟨rfl, h2, hb2⟩; have hB3 := hB2.trans (hb2.mono hB2.size); have z2 := z1.below hb2; have r2 := r1.below hb2)
    | (refine st_mc rfl rfl rfl rfl r2 (one_own h.hx) (one_own h.hy) ?_; intro w3 r3 o3 s3; have z3 := z2.onto o3 (by omega); have hB4 := below_onto hB3 o3 (by omega); have ke := (cw r3).e; rw [show m.popd.e = true from he] at ke)
    | (refine st_yes (m' := { m.popd with e := true }) rfl rfl rfl rfl r3 rfl rfl ?_; intro w4 r4 o4 s4; have z4 := z3.onto o4 (by omega); have hB5 := below_onto hB4 o4 (by omega))
    | (refine st_num (m' := { m.popd with pc := m.top, e := true }) rfl rfl rfl rfl r4 rfl rfl ?_; intro w5 r5 o5 s5; have z5 := z4.onto o5 (by omega); have hB6 := below_onto hB5 o5 (by omega))
    | (refine ld_mc rfl rfl rfl r5 ?_)
    | (refine st_mc rfl rfl rfl rfl z5 (one_own h.hx) (one_own h.hy) ?_; intro w6 r6 o6 s6))
  refine ret_mc2 rfl rfl r6 rfl rfl ?_
  have hB7 := below_onto hB6 o6 (by omega)
  exact ⟨rfl, (h.below hB7).as rfl rfl, .of hB7⟩
theorem l7Jump_24_f (hv : v = m.val x y) (h : Ow base w x y m) (hok : m.ok = true) (n : Int) (he : m.e = false) :
    Calls Tryz.prog 142 #[v, .int .i64 24, .int .i64 n] w fun e w' => e = .returned (.tuple #[(m.does n 24).1.val x y, .int .i64 (m.does n 24).2]) ∧ Ow base w' x y (m.does n 24).1 ∧ But y w w' := by
  have hE : Hid ((m.does n 24).1 = { m.popd with pc := m.top, e := false }) := show _ = _ by simp [Mc.does, Mc.popd, he]
  have hE2 : Hid ((m.does n 24).2 = -1) := show _ = _ from rfl
  rw [hE.out, hE2.out]
  go_enter Tryz.func142, Tryz.ntmps142
  go_wp2_with (first
    | (refine box_m rfl rfl hv ?_; intro w0 r0 hB0)
    | (refine al_mc rfl rfl ?_; intro w1 z1 hB1; have r1 := r0.below hB1; have hB2 := hB0.trans (hB1.mono hB0.size); have l0 := r0.lt; have lz := z1.lt; have h1 := h.below hB2)
    | (refine ld_mc rfl rfl rfl r1 ?_)
    | (go_at_call 143; refine (l7Pop_spec rfl h1 hok).mono ?_; rintro e w2 ⟨rfl, h2, hb2⟩; have hB3 := hB2.trans (hb2.mono hB2.size); have z2 := z1.below hb2; have r2 := r1.below hb2)
    | (refine st_mc rfl rfl rfl rfl r2 (one_own h.hx) (one_own h.hy) ?_; intro w3 r3 o3 s3; have z3 := z2.onto o3 (by omega); have hB4 := below_onto hB3 o3 (by omega); have ke := (cw r3).e; rw [show m.popd.e = false from he] at ke)
    | (refine st_yes (m' := { m.popd with e := false }) rfl rfl rfl rfl r3 rfl rfl ?_; intro w4 r4 o4 s4; have z4 := z3.onto o4 (by omega); have hB5 := below_onto hB4 o4 (by omega))
    | (refine st_num (m' := { m.popd with pc := m.top, e := false }) rfl rfl rfl rfl r4 rfl rfl ?_; intro w5 r5 o5 s5; have z5 := z4.onto o5 (by omega); have hB6 := below_onto hB5 o5 (by omega))
    | (refine ld_mc rfl rfl rfl r5 ?_)
    | (refine st_mc rfl rfl rfl rfl z5 (one_own h.hx) (one_own h.hy) ?_; intro w6 r6 o6 s6))
  refine ret_mc2 rfl rfl r6 rfl rfl ?_
  have hB7 := below_onto hB6 o6 (by omega)
  exact ⟨rfl, (h.below hB7).as rfl rfl, .of hB7⟩
theorem l7Jump_29_t (hv : v = m.val x y) (h : Ow base w x y m) (hok : m.ok = true) (n : Int) (he : m.e = true) :
    Calls Tryz.prog 142 #[v, .int .i64 29, .int .i64 n] w fun e w' => e = .returned (.tuple #[(m.does n 29).1.val x y, .int .i64 (m.does n 29).2]) ∧ Ow base w' x y (m.does n 29).1 ∧ But y w w' := by
  have hE : Hid ((m.does n 29).1 = { m.popd with pc := m.top, e := true }) := show _ = _ by simp [Mc.does, Mc.popd, he]
  have hE2 : Hid ((m.does n 29).2 = -1) := show _ = _ from rfl
  rw [hE.out, hE2.out]
  go_enter Tryz.func142, Tryz.ntmps142
  go_wp2_with (first
    | (refine box_m rfl rfl hv ?_; intro w0 r0 hB0)
    | (refine al_mc rfl rfl ?_; intro w1 z1 hB1; have r1 := r0.below hB1; have hB2 := hB0.trans (hB1.mono hB0.size); have l0 := r0.lt; have lz := z1.lt; have h1 := h.below hB2)
    | (refine ld_mc rfl rfl rfl r1 ?_)
    | (go_at_call 143; refine (l7Pop_spec rfl h1 hok).mono ?_; rintro e w2 ⟨rfl, h2, hb2⟩; have hB3 := hB2.trans (hb2.mono hB2.size); have z2 := z1.below hb2; have r2 := r1.below hb2)
    | (refine st_mc rfl rfl rfl rfl r2 (one_own h.hx) (one_own h.hy) ?_; intro w3 r3 o3 s3; have z3 := z2.onto o3 (by omega); have hB4 := below_onto hB3 o3 (by omega); have ke := (cw r3).e; rw [show m.popd.e = true from he] at ke)
    | (refine st_yes (m' := { m.popd with e := true }) rfl rfl rfl rfl r3 rfl rfl ?_; intro w4 r4 o4 s4; have z4 := z3.onto o4 (by omega); have hB5 := below_onto hB4 o4 (by omega))
    | (refine st_num (m' := { m.popd with pc := m.top, e := true }) rfl rfl rfl rfl r4 rfl rfl ?_; intro w5 r5 o5 s5; have z5 := z4.onto o5 (by omega); have hB6 := below_onto hB5 o5 (by omega))
    | (refine ld_mc rfl rfl rfl r5 ?_)
    | (refine st_mc rfl rfl rfl rfl z5 (one_own h.hx) (one_own h.hy) ?_; intro w6 r6 o6 s6))
  refine ret_mc2 rfl rfl r6 rfl rfl ?_
  have hB7 := below_onto hB6 o6 (by omega)
  exact ⟨rfl, (h.below hB7).as rfl rfl, .of hB7⟩
theorem l7Jump_29_f (hv : v = m.val x y) (h : Ow base w x y m) (hok : m.ok = true) (n : Int) (he : m.e = false) :
    Calls Tryz.prog 142 #[v, .int .i64 29, .int .i64 n] w fun e w' => e = .returned (.tuple #[(m.does n 29).1.val x y, .int .i64 (m.does n 29).2]) ∧ Ow base w' x y (m.does n 29).1 ∧ But y w w' := by
  have hE : Hid ((m.does n 29).1 = { m.popd with pc := m.top, e := true }) := show _ = _ by simp [Mc.does, Mc.popd, he]
  have hE2 : Hid ((m.does n 29).2 = -1) := show _ = _ from rfl
  rw [hE.out, hE2.out]
  go_enter Tryz.func142, Tryz.ntmps142
  go_wp2_with (first
    | (refine box_m rfl rfl hv ?_; intro w0 r0 hB0)
    | (refine al_mc rfl rfl ?_; intro w1 z1 hB1; have r1 := r0.below hB1; have hB2 := hB0.trans (hB1.mono hB0.size); have l0 := r0.lt; have lz := z1.lt; have h1 := h.below hB2)
    | (refine ld_mc rfl rfl rfl r1 ?_)
    | (go_at_call 143; refine (l7Pop_spec rfl h1 hok).mono ?_; rintro e w2 ⟨rfl, h2, hb2⟩; have hB3 := hB2.trans (hb2.mono hB2.size); have z2 := z1.below hb2; have r2 := r1.below hb2)
    | (refine st_mc rfl rfl rfl rfl r2 (one_own h.hx) (one_own h.hy) ?_; intro w3 r3 o3 s3; have z3 := z2.onto o3 (by omega); have hB4 := below_onto hB3 o3 (by omega); have ke := (cw r3).e; rw [show m.popd.e = false from he] at ke)
    | (refine st_yes (m' := { m.popd with e := true }) rfl rfl rfl rfl r3 rfl rfl ?_; intro w4 r4 o4 s4; have z4 := z3.onto o4 (by omega); have hB5 := below_onto hB4 o4 (by omega))
    | (refine st_num (m' := { m.popd with pc := m.top, e := true }) rfl rfl rfl rfl r4 rfl rfl ?_; intro w5 r5 o5 s5; have z5 := z4.onto o5 (by omega); have hB6 := below_onto hB5 o5 (by omega))
    | (refine ld_mc rfl rfl rfl r5 ?_)
    | (refine st_mc rfl rfl rfl rfl z5 (one_own h.hx) (one_own h.hy) ?_; intro w6 r6 o6 s6))
  refine ret_mc2 rfl rfl r6 rfl rfl ?_
  have hB7 := below_onto hB6 o6 (by omega)
  exact ⟨rfl, (h.below hB7).as rfl rfl, .of hB7⟩
end
end Go.Proofs.YtocofjimkfffeaaGreatDoor.Mem
