/-
  The laws' own helpers over machines: a copy field by field, whether two are alike, how great one is, marks that are set and found again.
-/
import Derived.Test.YtocofjimkfffeaaGreatDoorMcW
import Derived.Test.YtocofjimkfffeaaGreatDoorMcNew
import Derived.Test.YtocofjimkfffeaaGreatDoorEx
import Derived.Test.YtocofjimkfffeaaGreatDoorSrl
import Derived.Test.YtocofjimkfffeaaGreatDoorTmr
namespace Go.Proofs.YtocofjimkfffeaaGreatDoor.Mem
open Go.ChangeShapes Go.WideShapes Go.RowKit Base Num Slc Rw Tmr Srl Rom RomOf Ex
set_option linter.unusedVariables false
set_option linter.unusedSimpArgs false

/-- Of the blocks that were there, those of X alone may have turned. -/
structure Turn (X : Nat → Prop) (w w' : World) : Prop where
  os : w'.os = w.os
  tape : w'.tape = w.tape
  output : w'.output = w.output
  size : w.heap.size ≤ w'.heap.size
  block : ∀ k, ¬ X k → k < w.heap.size → w'.heap[k]? = w.heap[k]?
theorem Turn.of {X : Nat → Prop} {w w' : World} (h : Below w.heap.size w w') : Turn X w w' := ⟨h.os, h.tape, h.output, h.size, fun k _ hk => h.block k hk⟩
theorem Turn.trans {X : Nat → Prop} {a b c : World} (h : Turn X a b) (k : Turn X b c) : Turn X a c :=
  ⟨k.os.trans h.os, k.tape.trans h.tape, k.output.trans h.output, Nat.le_trans h.size k.size, fun i hi hl => (k.block i hi (Nat.lt_of_lt_of_le hl h.size)).trans (h.block i hi hl)⟩
theorem Turn.grown {X : Nat → Prop} {w w' : World} {row : Option Nat} (h : w.grownBy w' row) (hx : ∀ k, row = some k → X k) : Turn X w w' :=
  ⟨h.os, h.tape, h.output, h.size, fun k hk hl => h.block k hl (fun e => hk (hx k e.symm))⟩
theorem Turn.own {X : Nat → Prop} {w w' : World} (t : Turn X w w') {base : Nat} {v : Value} {l : List Int} (h : Own base w v l) (hx : ∀ k, v.ownBlock = some k → ¬ X k) : Own base w' v l :=
  h.kept fun k hk => t.block k (hx k hk) (h.lt k hk).2
theorem Turn.row {X : Nat → Prop} {w w' : World} (t : Turn X w w') {g : Nat} {cs : Array Value} {T : TypeId} (h : Row w g cs T) (hx : ¬ X g) : Row w' g cs T := h.keep (t.block g hx h.lt)
theorem Turn.sl {X : Nat → Prop} {w w' : World} (t : Turn X w w') {v : Value} {l : List Int} (h : Sl w v l) (hx : 0 < l.length → ∀ k, v.ownBlock = some k → ¬ X k) : Sl w' v l := by
  obtain ⟨a, cap, rfl, h1, h2⟩ := h
  refine ⟨a, cap, rfl, ⟨h1.1, ?_⟩, h2⟩
  rcases h1.2 with h0 | ⟨b, off, rfl, hb, hc⟩
  · exact .inl h0
  · by_cases h0 : 0 < l.length
    · refine .inr ⟨b, off, rfl, Nat.lt_of_lt_of_le hb t.size, fun i hi => ?_⟩
      rw [World.cell?_of_block (w := w) (a := ⟨b, off + i, none⟩) (t.block b (hx h0 b rfl) hb)]
      exact hc i hi
    · exact .inl (by omega)
theorem Turn.below {X : Nat → Prop} {w0 w w' : World} (t : Turn X w w') (h : Below w0.heap.size w0 w) (hx : ∀ k, X k → w0.heap.size ≤ k) : Below w0.heap.size w0 w' :=
  ⟨t.os.trans h.os, t.tape.trans h.tape, t.output.trans h.output, Nat.le_trans h.size t.size, fun k hk => by
    rw [t.block k (fun e => by have := hx k e; omega) (Nat.lt_of_lt_of_le hk h.size)]; exact h.block k hk⟩
/-- The blocks of a machine's lists. -/
def Blk (vr va : Value) (k : Nat) : Prop := vr.ownBlock = some k ∨ va.ownBlock = some k
section
variable {ops : Array Oper} {rest : List Oper} {o : Oper} {a : Act} {w : World} {Q : Exit → Act → World → Prop} {x y : Operand} {g : Nat} {v vr va : Value} {m : Mc}
/-- The whole machine is read, behind a guard that lets it. -/
theorem ld_mcg (hw : Region.wanted o (yielded ops a.tmps) = true) (ho : o.op = .load 30 x) (hx : a.eval x = .pointer (some ⟨g, 0, none⟩)) (hr : MRow w g vr va m)
    (h : wpList Tryz.prog ops Q rest (a.put o.dst (m.val vr va)) w) : wpList Tryz.prog ops Q (o :: rest) a w :=
  wpList_step fun K hK => by
    rw [if_pos hw]
    exact wp_load_row _ _ ho _ hx _ _ _ _ hr.row Tryz.underlying30 rfl info_mc (hK _ _ h)
end
def szOf (m : Mc) : Int := if (1048576 : Int) < m.rom.length then -1 else if (1048576 : Int) - m.rom.length < m.ram.length then -1 else 1048576 - m.rom.length - m.ram.length
theorem Turn.onto {X : Nat → Prop} {g : Nat} {w w' : World} (h : Onto g w w') (hx : X g) : Turn X w w' :=
  ⟨h.os, h.tape, h.output, h.size, fun k hk hl => h.block k (fun e => hk (e ▸ hx)) hl⟩
end Go.Proofs.YtocofjimkfffeaaGreatDoor.Mem
