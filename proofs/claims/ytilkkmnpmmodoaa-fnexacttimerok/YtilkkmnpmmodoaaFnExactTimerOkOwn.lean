/-
  FnExactTimerOk: for every timer the program's TimerOk answers as the document's model does.
-/
import Derived.Test.YtilkkmnpmmodoaaRows
import Derived.WalkKit
import Derived.ProofKit
import Derived.OpenShut
import Derived.Test.YtilkkmnpmmodoaaBase
import Derived.Test.YtilkkmnpmmodoaaNum
import Derived.Test.YtilkkmnpmmodoaaTmr
import Derived.Test.YtilkkmnpmmodoaaSlc
import Derived.Test.YtilkkmnpmmodoaaTmr2
import Derived.Test.YtilkkmnpmmodoaaRow
import Derived.Test.YtilkkmnpmmodoaaTmr3
import Derived.Test.YtilkkmnpmmodoaaTmr4
import Derived.Test.YtilkkmnpmmodoaaArg
import Derived.ShutString
import Derived.ChangeOld
import Derived.Below
namespace Go.Proofs.Ytilkkmnpmmodoaa.fnExactTimerOk
open Go.ChangeShapes Go.WideShapes Go.ChangeAt Go.RowKit
open Go.ChangeMaps (open_string shut_string)
set_option linter.unusedVariables false

theorem own : ownKnob Try.prog.godebug = none := by kernel_rfl
theorem laidOut : laidOutB Try.prog = true := by kernel_rfl

theorem walk (v0 : Value) (w : World) (h0 : Args.Arg 34 w v0) :
    Calls Try.prog 4 #[v0] w fun e w' => e = .returned (.bool true) ∧ Below w.heap.size w w' := by
  obtain ⟨t, rfl⟩ := h0.timer
  have ht : ∀ x : Tmr.Tm, x.val = .agg #[.int .i64 x.c, .int .i64 x.v, .int .i64 x.s, .int .i64 x.m] := fun _ => rfl
  rw [ht]
  go_enter Try.func4, Try.ntmps4
  go_wp2_with fail
  go_at_call 17
  refine (Tmr.toTimer_any t _).mono ?_
  rintro e w1 ⟨rfl, hb1⟩
  have r1 := (Rw.Row.new w #[.int .i64 t.c, .int .i64 t.v, .int .i64 t.s, .int .i64 t.m] 34).below hb1
  have hB := ((Below.refl _ w).alloc (Nat.le_refl _) _).trans (hb1.mono (by simp))
  clear hb1
  go_wp2_with fail
  go_at_call 12
  refine (Tmr.timerOk_spec t _).mono ?_
  rintro e w2 ⟨rfl, hb2⟩
  replace r1 := r1.below hb2
  replace hB := hB.trans (hb2.mono hB.size)
  clear hb2
  have c1 := r1.cell
  go_wp2_with fail
  go_at_call 17
  refine (Tmr.toTimer_any t _).mono ?_
  rintro e w3 ⟨rfl, hb3⟩
  replace hB := hB.trans (hb3.mono hB.size)
  clear hb3
  go_wp2_with fail
  go_at_call 11
  refine (Tmr.timerOk_impl t _).mono ?_
  rintro e w4 ⟨rfl, hb4⟩
  replace hB := hB.trans (hb4.mono hB.size)
  go_wp2
  go_ret
  exact ⟨rfl, hB⟩

set_option maxRecDepth 100000 in
theorem lifted (os : Os) (started : os.Started) (H : Type) (enc : TypeId × Value → H) :
    ReturnsInHanded {} Try.checked os 4 .any (Rows.fnExactTimerOkSpec.pre6 enc Try.prog Try.f4 Rows.fnExactTimerOkRow.domain false) (Rows.fnExactTimerOkSpec.post enc Try.prog Try.f4 false true false false) := by
  refine returnsInHanded_of_change (C := Try.checked) own started (by kernel_rfl) Try.func4
    (ChangeSpec.witness6 (enc := enc) (C := Try.checked) false ⟨#[], #[.agg #[.int .i64 0, .int .i64 0, .int .i64 0, .int .i64 0]], []⟩ 8 (by kernel_rfl) (by kernel_rfl) (by kernel_rfl) (by kernel_rfl)) ?_
  intro W base args ds gs before hval0 hW hcnd _
  have hval : ∀ (j : Nat) t v, Try.f4.params[j]? = some t → args[j]? = some v → Value.okWide Try.prog W .any base t v := hval0
  have hW' := hW
  obtain ⟨p, q, hA0, hV, rfl, hfz, hnd⟩ := hW
  have hA : DataW.TrodAll enc Try.prog W 0 (fun _ => true) true Try.f4.params.toList args.toList ds p := hA0
  rw [Try.params4] at hA hval
  obtain ⟨v0, vs0, d0, ds0, p0, q0, hargs, rfl, rfl, h0, r0⟩ := trodAll_cons hA
  obtain ⟨rfl, rfl, rfl⟩ := trodAll_nil r0
  obtain rfl : args = #[v0] := by cases args; simp_all
  obtain ⟨rfl, rfl⟩ := trodVars_none hV
  have lt0 : ∀ x ∈ p0, x.block < W.heap.size := by obtain ⟨m, hm⟩ := h0; exact DataW.trod_lt m _ _ _ hm
  have a0 : Args.Arg 34 W v0 := ⟨H, enc, base, d0, p0, hval 0 34 v0 rfl rfl, h0⟩
  clear hA0 hval0
  refine (walk v0 W a0).mono fun e W' ⟨he, bel⟩ => ?_
  subst he
  exact ⟨_, rfl, _, _, _, [], _, [], hW', trodAll_mk1 (shut_bool Try.underlying4 _), (trodAll_cons_mk (Below.trod laidOut (by kernel_rfl) (of_decide_eq_true (by kernel_rfl)) h0 bel lt0) trodAll_mk0), rfl, bel.frame _, fun h => by cases h⟩

theorem over : Rows.fnExactTimerOkRow.holds Try.pinned (OpenSpec.ofChange Rows.fnExactTimerOkSpec) :=
  OpenClaim.holds_of_wide 4 Try.f4 rfl rfl rfl rfl rfl rfl rfl ⟨rfl, rfl, rfl, rfl, rfl⟩ rfl rfl rfl rfl rfl (by kernel_rfl) Try.func4 (by kernel_rfl)
    (of_decide_eq_true (by kernel_rfl)) (by unfold Func.isWrapper; first | (rw [if_pos (by decide +kernel)]; kernel_rfl) | (rw [if_neg (by decide +kernel)]; exact ⟨rfl, rfl⟩))
    (fun os started H enc _ => lifted os started H enc)

theorem proved : Rows.FnExactTimerOkSaid := over
#print axioms proved
end Go.Proofs.Ytilkkmnpmmodoaa.fnExactTimerOk
