/-
  More of the drawing: a number from here to there; what a draw leaves as it was, beside the blocks that were laid since.
-/
import Derived.Test.YtogmhpjelmlonaaDraw
namespace Go.Proofs.Ytogmhpjelmlonaa.Draw
open Go.ChangeShapes Go.WideShapes Go.RowKit Base
set_option linter.unusedVariables false

theorem from_any {w0 : World} {p : Nat} {a : Option Addr} {len cap : Nat} (lo hi : Int) (w : World) (h : Drawn p a len cap w0 w) (h0 : lo ≤ hi) (h1 : -1000000 ≤ lo) (h2 : hi ≤ 1000000000000) :
    Calls Try.prog 70 #[.pointer (some ⟨p, 0, none⟩), .int .i64 lo, .int .i64 hi] w fun e w' => ∃ x : Int, e = .returned (.int .i64 x) ∧ (lo ≤ x ∧ x ≤ hi) ∧ Onto p w w' ∧ Drawn p a len cap w0 w' := by
  go_enter Try.func70, Try.ntmps70
  go_wp2_with (go_at_call 68; refine (below_any _ _ h (by omega)).mono ?_; rintro e w1 ⟨r, rfl, hr, ho, hd⟩)
  go_ret
  exact ⟨_, rfl, by omega, ho, hd⟩
section
variable {w0 w w' : World} {p b : Nat} {a : Option Addr} {len cap : Nat}
theorem drawn_new (h : Drawn p a len cap w0 w) {q : Addr} (hp : p < w0.heap.size) (hx : 0 < len → ∀ x, a = some x → x.block < w0.heap.size) (hq : w0.heap.size ≤ q.block) (v : Value) : Drawn p a len cap w0 (w.setCell q v) :=
  ⟨h.onto.setNew hq v, h.cur.onto ((Onto.refl q.block w).setCell rfl v) (by omega) (fun h0 x e => by have := hx h0 x e; omega)⟩
/-- What is old when the drawing begins. -/
def OldC (p : Nat) (a : Option Addr) (len : Nat) (w0 : World) : Prop := p < w0.heap.size ∧ (0 < len → ∀ x, a = some x → x.block < w0.heap.size)
theorem drawn_other (h : Drawn p a len cap w0 w) {q : Nat} (ho : Onto q w w') (hq : w0.heap.size ≤ q) (hold : OldC p a len w0) : Drawn p a len cap w0 w' :=
  ⟨⟨ho.os.trans h.onto.os, ho.tape.trans h.onto.tape, ho.output.trans h.onto.output, Nat.le_trans h.onto.size ho.size, fun k hk hl => by
    have := h.onto.size
    rw [ho.block k (by omega) (by omega)]; exact h.onto.block k hk hl⟩,
    h.cur.onto ho (by have := hold.1; omega) (fun h0 x e => by have := hold.2 h0 x e; omega)⟩
end
end Go.Proofs.Ytogmhpjelmlonaa.Draw
