/-
  What the drawing functions of chapter 2 answer: some short list of their own.
-/
import Derived.Test.YtocofjimkfffeaaGreatDoorDice
import Derived.Test.YtocofjimkfffeaaGreatDoorRom
namespace Go.Proofs.YtocofjimkfffeaaGreatDoor.DrawRom
open Go.ChangeShapes Go.WideShapes Go.RowKit Base Draw Slc Num Rom RomOf
set_option linter.unusedVariables false
set_option linter.unusedSimpArgs false

theorem cur_keep {w w' : World} {p : Nat} {a : Option Addr} {len cap : Nat} (h : CurAt w p a len cap) (hs : w.heap.size ≤ w'.heap.size) (hp : w'.heap[p]? = w.heap[p]?)
    (hk : 0 < len → ∀ x, a = some x → w'.heap[x.block]? = w.heap[x.block]?) : CurAt w' p a len cap := by
  obtain ⟨c0, ⟨i, c1, hi⟩, ⟨g, c2⟩, f, hcode, hap, hfew⟩ := h
  exact ⟨by rw [World.cell?_of_block (w := w) (a := ⟨p, 0, none⟩) hp]; exact c0, ⟨i, by rw [World.cell?_of_block (w := w) (a := ⟨p, 1, none⟩) hp]; exact c1, hi⟩, ⟨g, by rw [World.cell?_of_block (w := w) (a := ⟨p, 2, none⟩) hp]; exact c2⟩,
    fun o => by rw [World.frozen?_of_block (w := w) (a := ⟨p, o, none⟩) hp]; exact f o, hcode.keep hs hk, hap, hfew⟩
/-- A cursor over a code, both from before the world w0. -/
def Old (w0 : World) (p : Nat) (a : Option Addr) (len : Nat) : Prop := p < w0.heap.size ∧ (0 < len → ∀ x, a = some x → x.block < w0.heap.size)
theorem old_of {w : World} {p : Nat} {a : Option Addr} {len cap : Nat} (h : CurAt w p a len cap) : Old w p a len := ⟨h.lt, h.code.lt⟩
theorem drawn_grown {w0 w w' : World} {p : Nat} {a : Option Addr} {len cap : Nat} {row : Option Nat} (h : Drawn p a len cap w0 w) (ho : Old w0 p a len) (hg : w.grownBy w' row) (hr : ∀ k, row = some k → w0.heap.size ≤ k) : Drawn p a len cap w0 w' := by
  have hsz := h.onto.size
  have key : ∀ k, k < w0.heap.size → w'.heap[k]? = w.heap[k]? := fun k hk => hg.block k (by omega) (fun e => by have := hr k e.symm; omega)
  exact ⟨⟨hg.os.trans h.onto.os, hg.tape.trans h.onto.tape, hg.output.trans h.onto.output, Nat.le_trans hsz hg.size, fun k hk hl => (key k hl).trans (h.onto.block k hk hl)⟩,
    cur_keep h.cur hg.size (key p ho.1) (fun h0 x hx => key _ (ho.2 h0 x hx))⟩
theorem own_onto {base p : Nat} {w w' : World} {v : Value} {l : List Int} (h : Own base w v l) (ho : Onto p w w') (hp : p < base) : Own base w' v l :=
  h.onto ho (fun e => by have := (h.lt p e).1; omega)
theorem drawn_below {w0 w : World} {p : Nat} {a : Option Addr} {len cap : Nat} (h : Drawn p a len cap w0 w) {B : Nat} (hB : B ≤ p) (hw : B ≤ w0.heap.size) : Below B w0 w := h.onto.below hB hw

end Go.Proofs.YtocofjimkfffeaaGreatDoor.DrawRom
