/-
  The port: what is sent, a beat, an answer, as the document's model tells them; a port taken over field by field, and two of them compared.
-/
import Derived.Test.YtocofjimkfffeaaSrl
namespace Go.Proofs.Ytocofjimkfffeaa.Srl
open Go.ChangeShapes Go.WideShapes Go.RowKit Base Num Slc Rw Reg Tmr
set_option linter.unusedVariables false

theorem toSerial_any (s : Sr) (w : World) :
    Calls Try.prog 19 #[s.val] w fun e w' => e = .returned s.val ∧ Below w.heap.size w w' := by
  rw [Sr.eta s]
  go_enter Try.func19, Try.ntmps19
  go_wp2
  refine ret_row rfl rfl ((Row.new1 (w := w.alloc _) (n := w.heap.size + 1) (by simp) #[.int .i64 s.d, .bool s.b, .bool s.l, .int .i64 s.n, .int .i64 s.x, .bool s.t] 32).alloc _) und_sr rfl info_sr rfl ?_
  exact ⟨rfl, (((Below.refl _ _).alloc (Nat.le_refl _) _).alloc (by simp) _).alloc (by simp; omega) _⟩
theorem eqSerial_same (s : Sr) (w : World) :
    Calls Try.prog 24 #[s.val, s.val] w fun e w' => e = .returned (.bool true) ∧ Below w.heap.size w w' := by
  rw [Sr.eta s]
  go_enter Try.func24, Try.ntmps24
  go_wp2
  go_ret
  exact ⟨rfl, ((Below.refl _ _).alloc (Nat.le_refl _) _).alloc (by simp) _⟩
theorem Sr.ok_busy {s : Sr} (h : s.ok = true) (hb : s.b = true) : 1 ≤ s.n ∧ s.n ≤ 8 := by
  simp only [Sr.ok, hb, if_true, Bool.and_eq_true] at h
  exact inn_true h.2.1
theorem Sr.ok_wait {s : Sr} (h : s.ok = true) (ht : s.t = true) : s.l = true ∧ s.b = true ∧ s.x = 0 := by
  obtain ⟨d, b, l, n, x, t⟩ := s
  simp only at ht
  subst ht
  cases b <;> cases l <;> simp [Sr.ok] at h ⊢
  exact h.2.2
end Go.Proofs.Ytocofjimkfffeaa.Srl
