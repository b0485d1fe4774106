/-
  The port: what is sent, and a beat, as the document's model tells them.
-/
import Derived.Test.YtocofjimkfffeaaSrl2
namespace Go.Proofs.Ytocofjimkfffeaa.Srl
open Go.ChangeShapes Go.WideShapes Go.RowKit Base Num Slc Rw Reg Tmr
set_option linter.unusedVariables false

/-- Within the last statement: the port that came, the one that goes, the result's block. -/
structure Gs (w : World) (b2 b4 b7 : Nat) (s o : Sr) (W : World) : Prop where
  r2 : Row W b2 #[.int .i64 s.d, .bool s.b, .bool s.l, .int .i64 s.n, .int .i64 s.x, .bool s.t] 32
  r7 : Row W b7 #[.int .i64 o.d, .bool o.b, .bool o.l, .int .i64 o.n, .int .i64 o.x, .bool o.t] 32
  r4 : ∃ cs : Array Value, cs.size = 6 ∧ Row W b4 cs 32
  bel : Below w.heap.size w W
theorem Gs.drew {w W : World} {b2 b4 b7 : Nat} {s o : Sr} (h : Gs w b2 b4 b7 s o W) : Gs w b2 b4 b7 s o W.drew := ⟨h.r2.drewN 1, h.r7.drewN 1, h.r4.imp fun _ ⟨e, r⟩ => ⟨e, r.drewN 1⟩, h.bel.drew⟩
theorem row_set {W : World} {b : Nat} (cs : Array Value) : Onto b W (W.setRow b cs) := ⟨rfl, rfl, rfl, by simp, fun k hk _ => setRow_other W _ k _ hk⟩
theorem Gs.store {w W : World} {b2 b4 b7 : Nat} {s o : Sr} (h : Gs w b2 b4 b7 s o W) (h2 : b2 ≠ b4) (h7 : b7 ≠ b4) (hw : w.heap.size ≤ b4) (cs : Array Value) (hcs : cs.size = 6) : Gs w b2 b4 b7 s o (W.setRow b4 cs) := by
  obtain ⟨old, e, r⟩ := h.r4
  exact ⟨h.r2.onto (row_set cs) h2, h.r7.onto (row_set cs) h7, ⟨cs, hcs, Row.of (setRow_heap W _ _ _ _ _ r.row)⟩, below_onto h.bel (row_set cs) hw⟩
end Go.Proofs.Ytocofjimkfffeaa.Srl
