/-
  FnExactSerialOk: for every argument the program's SerialOk answers as the document's model does.
-/
import Derived.Test.YtdcmjajipkpbnaaRows
import Derived.WalkKit
import Derived.ProofKit
import Derived.OpenShut
import Derived.Test.YtdcmjajipkpbnaaBase
import Derived.Test.YtdcmjajipkpbnaaNum
import Derived.Test.YtdcmjajipkpbnaaTmr
import Derived.Test.YtdcmjajipkpbnaaSlc
import Derived.Test.YtdcmjajipkpbnaaRow
import Derived.Test.YtdcmjajipkpbnaaReg
import Derived.Test.YtdcmjajipkpbnaaSrl
import Derived.Test.YtdcmjajipkpbnaaSrl2
import Derived.Test.YtdcmjajipkpbnaaSrl3
import Derived.Test.YtdcmjajipkpbnaaSrl4
import Derived.Test.YtdcmjajipkpbnaaRow2
import Derived.Test.YtdcmjajipkpbnaaSrlI
import Derived.Test.YtdcmjajipkpbnaaSrlI2
import Derived.Test.YtdcmjajipkpbnaaSrlI3
import Derived.Test.YtdcmjajipkpbnaaSrlI4
import Derived.Test.YtdcmjajipkpbnaaSrlI5
import Derived.Test.YtdcmjajipkpbnaaArg
import Derived.Test.YtdcmjajipkpbnaaArgSr
import Derived.ShutString
import Derived.ChangeOld
import Derived.Below
namespace Go.Proofs.Ytdcmjajipkpbnaa.fnExactSerialOk
open Go.ChangeShapes Go.WideShapes Go.ChangeAt Go.RowKit
open Go.ChangeMaps (open_string shut_string)
set_option linter.unusedVariables false

theorem own : ownKnob Try.prog.godebug = none := by kernel_rfl
theorem laidOut : laidOutB Try.prog = true := by kernel_rfl

theorem walk (v0 : Value) (w : World) (h0 : Args.Arg 43 w v0) :
    Calls Try.prog 5 #[v0] w fun e w' => e = .returned (.bool true) ∧ Below w.heap.size w w' := by
  obtain ⟨s, rfl⟩ := h0.serial
  clear h0
  rw [Srl.Sr.eta]
  go_enter Try.func5, Try.ntmps5
  go_wp2_with fail
  go_at_call 27
  refine (Srl.toSerial_any s _).mono ?_
  rintro e w1 ⟨rfl, hb1⟩
  have r1 := (Rw.Row.new w #[.int .i64 s.d, .bool s.b, .bool s.l, .int .i64 s.n, .int .i64 s.x, .bool s.t] 43).below hb1
  have hB := ((Below.refl _ w).alloc (Nat.le_refl _) _).trans (hb1.mono (by simp))
  clear hb1
  go_wp2_with fail
  go_at_call 26
  refine (Srl.serialOk_spec s  _).mono ?_
  rintro e w2 ⟨rfl, hb2⟩
  replace r1 := r1.below hb2
  replace hB := hB.trans (hb2.mono hB.size)
  clear hb2
  have c1 := r1.cell
  have l1 := r1.lt
  go_wp2_with fail
  go_at_call 27
  refine (Srl.toSerial_any s _).mono ?_
  rintro e w3 ⟨rfl, hb3⟩
  replace hB := hB.trans (hb3.mono hB.size)
  clear hb3 c1 l1
  go_wp2_with fail
  go_at_call 17
  refine (Srl.serialOk_impl s _).mono ?_
  rintro e w4 ⟨rfl, hb4⟩
  replace hB := hB.trans (hb4.mono hB.size)
  go_wp2
  go_ret
  exact ⟨rfl, hB⟩

set_option maxRecDepth 100000 in
theorem lifted (os : Os) (started : os.Started) (H : Type) (enc : TypeId × Value → H) :
    ReturnsInHanded {} Try.checked os 5 .any (Rows.fnExactSerialOkSpec.pre6 enc Try.prog Try.f5 Rows.fnExactSerialOkRow.domain false) (Rows.fnExactSerialOkSpec.post enc Try.prog Try.f5 false true false false) := by
  refine returnsInHanded_of_change (C := Try.checked) own started (by kernel_rfl) Try.func5
    (ChangeSpec.witness6 (enc := enc) (C := Try.checked) false ⟨#[], #[.agg #[.int .i64 0, .bool false, .bool false, .int .i64 0, .int .i64 0, .bool false]], []⟩ 8 (by kernel_rfl) (by kernel_rfl) (by kernel_rfl) (by kernel_rfl)) ?_
  intro W base args ds gs before hval0 hW hcnd _
  have hval : ∀ (j : Nat) t v, Try.f5.params[j]? = some t → args[j]? = some v → Value.okWide Try.prog W .any base t v := hval0
  have hW' := hW
  obtain ⟨p, q, hA0, hV, rfl, hfz, hnd⟩ := hW
  have hA : DataW.TrodAll enc Try.prog W 0 (fun _ => true) true Try.f5.params.toList args.toList ds p := hA0
  rw [Try.params5] at hA hval
  obtain ⟨v0, vs0, d0, ds0, p0, q0, hargs, rfl, rfl, h0, r0⟩ := trodAll_cons hA
  obtain ⟨rfl, rfl, rfl⟩ := trodAll_nil r0
  obtain rfl : args = #[v0] := by cases args; simp_all
  obtain ⟨rfl, rfl⟩ := trodVars_none hV
  have lt0 : ∀ x ∈ p0, x.block < W.heap.size := by obtain ⟨m, hm⟩ := h0; exact DataW.trod_lt m _ _ _ hm
  have a0 : Args.Arg 43 W v0 := ⟨H, enc, base, d0, p0, hval 0 43 v0 rfl rfl, h0⟩
  clear hA0 hval0
  refine (walk v0 W a0).mono fun e W' ⟨he, bel⟩ => ?_
  subst he
  exact ⟨_, rfl, _, _, _, [], _, [], hW', trodAll_mk1 (shut_bool Try.underlying4 _), (trodAll_cons_mk (Below.trod laidOut (by kernel_rfl) (of_decide_eq_true (by kernel_rfl)) h0 bel lt0) trodAll_mk0), rfl, bel.frame _, fun h => by cases h⟩

theorem over : Rows.fnExactSerialOkRow.holds Try.pinned (OpenSpec.ofChange Rows.fnExactSerialOkSpec) :=
  OpenClaim.holds_of_wide 5 Try.f5 rfl rfl rfl rfl rfl rfl rfl ⟨rfl, rfl, rfl, rfl, rfl⟩ rfl rfl rfl rfl rfl (by kernel_rfl) Try.func5 (by kernel_rfl)
    (of_decide_eq_true (by kernel_rfl)) (by unfold Func.isWrapper; first | (rw [if_pos (by decide +kernel)]; kernel_rfl) | (rw [if_neg (by decide +kernel)]; exact ⟨rfl, rfl⟩))
    (fun os started H enc _ => lifted os started H enc)

theorem proved : Rows.FnExactSerialOkSaid := over
#print axioms proved
end Go.Proofs.Ytdcmjajipkpbnaa.fnExactSerialOk
