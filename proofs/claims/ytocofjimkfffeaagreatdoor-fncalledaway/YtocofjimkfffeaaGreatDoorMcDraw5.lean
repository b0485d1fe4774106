/-
  What the draws of chapter 6 give.
-/
import Derived.Test.YtocofjimkfffeaaGreatDoorMcDraw4
namespace Go.Proofs.YtocofjimkfffeaaGreatDoor.Mem
open Go.ChangeShapes Go.WideShapes Go.RowKit Base Draw Slc Num Rw Tmr Srl Rom RomOf Reg
set_option linter.unusedVariables false
set_option linter.unusedSimpArgs false

/-- What stands while a draw is handed back. -/
structure Gd (w wd : World) (p : Nat) (a : Option Addr) (len cap g gr base : Nat) (x y : Value) (M : Mc) (W : World) : Prop where
  cur : CurAt W p a len cap
  row : MRow W g x y M
  res : ∃ cs : Array Value, cs.size = 25 ∧ Row W gr cs 30
  md : MDr base W x y M
  bel : Below w.heap.size w W
/-- Where the blocks lie. -/
structure Pd (w wd : World) (p : Nat) (a : Option Addr) (len g gr base : Nat) : Prop where
  code : 0 < len → ∀ x, a = some x → x.block ≠ gr
  n0 : w.heap.size ≤ gr
  n1 : gr < p
  n2 : p < base
  n3 : wd.heap.size ≤ g
  n4 : p < wd.heap.size
  n5 : gr < wd.heap.size
theorem Gd.drew {w wd W : World} {p : Nat} {a : Option Addr} {len cap g gr base : Nat} {x y : Value} {M : Mc} (h : Gd w wd p a len cap g gr base x y M W) : Gd w wd p a len cap g gr base x y M W.drew :=
  ⟨h.cur.drewN 1, h.row.drewN 1, h.res.imp fun _ r => ⟨r.1, r.2.drewN 1⟩, h.md.below (drew_below (n := 1) rfl), h.bel.drew⟩
theorem Gd.onto {w wd W W' : World} {p : Nat} {a : Option Addr} {len cap g gr base : Nat} {x y : Value} {M : Mc} (h : Gd w wd p a len cap g gr base x y M W) (hP : Pd w wd p a len g gr base) (ho : Onto p W W') (hd : CurAt W' p a len cap) : Gd w wd p a len cap g gr base x y M W' := by
  have := hP.n0; have := hP.n1; have := hP.n2; have := hP.n3; have := hP.n4
  exact ⟨hd, h.row.onto ho (by omega), h.res.imp fun _ r => ⟨r.1, r.2.onto ho (by omega)⟩, h.md.onto ho (by omega), below_onto h.bel ho (by omega)⟩
theorem mdr_new {base : Nat} {w3 w4 w5 : World} {x y : Value} {M : Mc} (h : MDr base w3 x y M) (hb : Below w3.heap.size w3 w4) (ho : Onto w3.heap.size w4 w5) : MDr base w5 x y M := by
  have k1 : ∀ {v : Value} {l : List Int}, Sl w3 v l → Sl w5 v l := fun {v l} hs => by
    by_cases h0 : 0 < l.length
    · exact sl_onto (hs.below hb) ho (fun e => by have := hs.lt h0 _ e; omega)
    · obtain ⟨a, cap, rfl, h1, h2⟩ := hs
      exact ⟨a, cap, rfl, ⟨h1.1, .inl (by omega)⟩, h2⟩
  exact ⟨(h.o1.below hb).onto ho (fun e => by have := (h.o1.lt _ e).2; omega), k1 h.s2, h.b1, h.b2, h.l0, h.l1, h.l2, h.pc, h.ap, h.m0⟩
end Go.Proofs.YtocofjimkfffeaaGreatDoor.Mem
