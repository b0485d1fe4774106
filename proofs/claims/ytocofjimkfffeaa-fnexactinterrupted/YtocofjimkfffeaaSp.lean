/-
  The processor, as the document's model has it: what each of its functions answers.
-/
import Derived.Test.YtocofjimkfffeaaCp
import Derived.Test.YtocofjimkfffeaaReg7
import Derived.Test.YtocofjimkfffeaaMcCopy
import Derived.Test.YtocofjimkfffeaaMcWrite
import Derived.Test.YtocofjimkfffeaaOps
namespace Go.Proofs.Ytocofjimkfffeaa.Mem
open Go.ChangeShapes Go.WideShapes Go.RowKit Base Num Slc Rw Tmr Srl Rom RomOf Opl Reg
set_option linter.unusedVariables false
set_option linter.unusedSimpArgs false

/-- A machine of one's own, its lists named. -/
structure Ow (base : Nat) (w : World) (x y : Value) (m : Mc) : Prop where
  hx : Own base w x m.rom
  hy : Own base w y m.ram
  ap : ∀ k, x.ownBlock = some k → y.ownBlock ≠ some k
  le : base ≤ w.heap.size
theorem Ow.below {base : Nat} {w w' : World} {x y : Value} {m : Mc} (h : Ow base w x y m) (hb : Below w.heap.size w w') : Ow base w' x y m :=
  ⟨h.hx.below hb, h.hy.below hb, h.ap, Nat.le_trans h.le hb.size⟩
/-- Another machine with the same lists. -/
theorem Ow.as {base : Nat} {w : World} {x y : Value} {m m' : Mc} (h : Ow base w x y m) (h1 : m'.rom = m.rom) (h2 : m'.ram = m.ram) : Ow base w x y m' := ⟨h1 ▸ h.hx, h2 ▸ h.hy, h.ap, h.le⟩
theorem Ow.sl {base : Nat} {w : World} {x y : Value} {m : Mc} (h : Ow base w x y m) : MSl w (m.val x y) m := ⟨x, y, rfl, h.hx.sl, h.hy.sl⟩
theorem Ow.onto {base p : Nat} {w w' : World} {x y : Value} {m : Mc} (h : Ow base w x y m) (ho : Onto p w w') (hp : w.heap.size ≤ p) : Ow base w' x y m :=
  ⟨h.hx.onto ho (fun e => by have := (h.hx.lt _ e).2; omega), h.hy.onto ho (fun e => by have := (h.hy.lt _ e).2; omega), h.ap, Nat.le_trans h.le ho.size⟩
/-- A store into a block of a call's own that is not one of the lists. -/
theorem Ow.at {base p : Nat} {w w' : World} {x y : Value} {m : Mc} (h : Ow base w x y m) (ho : Onto p w w') (h1 : x.ownBlock ≠ some p) (h2 : y.ownBlock ≠ some p) : Ow base w' x y m :=
  ⟨h.hx.onto ho h1, h.hy.onto ho h2, h.ap, Nat.le_trans h.le ho.size⟩
theorem But.refl (y : Value) (w : World) : But y w w := fun _ _ => Onto.refl _ _
theorem But.of {y : Value} {w w' : World} (h : Below w.heap.size w w') : But y w w' := fun _ _ => on_below h
theorem But.trans {y : Value} {a b c : World} (h : But y a b) (k : But y b c) : But y a c := fun g hg => (h g hg).trans (k g hg)
theorem But.new {y : Value} {p : Nat} {a w w' : World} (h : But y a w) (ho : Onto p w w') (hp : a.heap.size ≤ p) : But y a w' := fun g hg => onto_new (h g hg) ho hp
theorem But.row {y : Value} {w w' : World} {b : Nat} {cs : Array Value} {T : TypeId} (h : But y w w') {g : Nat} (hg : y.ownBlock = some g) (hr : Row w b cs T) (hb : g ≠ b) : Row w' b cs T := hr.onto (h g hg) (fun e => hb e.symm)
section
variable {base : Nat} {w : World} {x y v : Value} {m : Mc}
theorem ram_block (h : Own base w y m.ram) (hok : m.ok = true) : ∃ g, y.ownBlock = some g ∧ g < w.heap.size := by
  obtain ⟨g, cap, rfl, h1, h2, h3⟩ := h.block (by have := (okm.1 hok).len; omega)
  exact ⟨g, rfl, h2⟩
theorem write_rom (m : Mc) (q n : Int) : (m.write q n).rom = m.rom := by
  unfold Mc.write
  repeat' split
  all_goals rfl
theorem l7Put_spec (hv : v = m.val x y) (h : Ow base w x y m) (hok : m.ok = true) (q n : Int) (hq : bok q = true) (hn : bok n = true) :
    Calls Try.prog 57 #[v, .int .i64 q, .int .i64 n] w fun e w' => e = .returned (.tuple #[(m.write q n).val x y, .int .i64 (outs q n)]) ∧ Ow base w' x y (m.write q n) ∧ But y w w' := by
  obtain ⟨g, hg, hgl⟩ := ram_block h.hy hok
  by_cases e9 : q = 249
  · subst e9
    have hE : Hid (outs 249 n = n ∧ m.write 249 n = m) := show _ ∧ _ from ⟨rfl, write_out m n⟩
    go_enter Try.func57, Try.ntmps57
    go_wp2_with (first
      | (refine box_m rfl rfl hv ?_; intro w0 r0 hB0)
      | (refine al_mc rfl rfl ?_; intro w1 z1 hB1; have r1 := r0.below hB1; have hB2 := hB0.trans (hB1.mono hB0.size); have l0 := r0.lt; have lz := z1.lt)
      | (refine ld_mc rfl rfl rfl r1 ?_)
      | (refine st_mc rfl rfl rfl rfl z1 (one_own h.hx) (one_own h.hy) ?_; intro w6 r6 o6 s6))
    refine ret_mc2 rfl rfl r6 rfl rfl ?_
    have hB6 := below_onto hB2 o6 (by omega)
    rw [hE.out.1, hE.out.2]
    exact ⟨rfl, h.below hB6, .of hB6⟩
  · have e9' : (q == 249) = false := by simpa using e9
    have hE : Hid (outs q n = -1) := show _ = _ by simp [outs, e9]
    clear e9
    go_enter Try.func57, Try.ntmps57
    go_wp2_with (first
      | (refine box_m rfl rfl hv ?_; intro w0 r0 hB0)
      | (refine al_mc rfl rfl ?_; intro w1 z1 hB1; have r1 := r0.below hB1; have hB2 := hB0.trans (hB1.mono hB0.size); have l0 := r0.lt; have lz := z1.lt; have h2 := h.below hB2)
      | (refine ld_mc rfl rfl rfl r1 ?_)
      | (go_at_call 61; refine (l6Write_on _ x y m _ _ _ base rfl h2.hx h2.hy h2.ap (Mc.right hok) (bok_iff.1 hq) (bok_iff.1 hn) h2.le).mono ?_; rintro e w3 ⟨v3, rfl, ⟨rfl, hx3, hy3⟩, hb3⟩; have z3 := hb3.row hg z1 (by omega))
      | (refine st_mc rfl rfl rfl rfl z3 (one_own h.hx) (one_own h.hy) ?_; intro w6 r6 o6 s6))
    refine ret_mc2 rfl rfl r6 rfl rfl ?_
    rw [hE.out]
    have h3 : Ow base w3 x y (m.write q n) := ⟨hx3, hy3, h.ap, Nat.le_trans h2.le (hb3 g hg).size⟩
    exact ⟨rfl, h3.at o6 (fun e => by have := (h.hx.lt _ e).2; omega) (fun e => by have := (h.hy.lt _ e).2; omega), ((But.of hB2).trans hb3).new o6 (by omega)⟩
end
end Go.Proofs.Ytocofjimkfffeaa.Mem
