/-
  Inboxes: the model's InboxWith.
-/
import Derived.Test.YtjjafaikaghlgaaInb
namespace Go.Proofs.Ytjjafaikaghlgaa.Mem
open Go.ChangeShapes Go.WideShapes Go.RowKit Base Num Slc Slf Rw Tmr Reg
set_option linter.unusedVariables false
set_option linter.unusedSimpArgs false
set_option maxRecDepth 20000

theorem inboxOk_few {l : List M3} (h : inboxOk l = true) : l.length ≤ 200 := by
  simp only [inboxOk, Bool.and_eq_true, decide_eq_true_eq] at h
  exact h.2
theorem ld_m3g {ops : Array Oper} {rest : List Oper} {o : Oper} {a : Act} {w : World} {Q : Exit → Act → World → Prop} {x : Operand} {g : Nat} {m : M3} (hw : Region.wanted o (yielded ops a.tmps) = true) (ho : o.op = .load 78 x) (hx : a.eval x = .pointer (some ⟨g, 0, none⟩)) (hr : M3Row w g m)
    (h : wpList Try.prog ops Q rest (a.put o.dst m.val) w) : wpList Try.prog ops Q (o :: rest) a w :=
  wpList_step fun K hK => by
    rw [if_pos hw]
    exact wp_load_row _ _ ho _ hx _ _ _ _ hr.row Try.underlying78 rfl info_m3 (hK _ _ h)
end Go.Proofs.Ytjjafaikaghlgaa.Mem
