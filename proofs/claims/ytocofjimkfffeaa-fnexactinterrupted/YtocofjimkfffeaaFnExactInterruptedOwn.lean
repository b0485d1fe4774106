/-
  FnExactInterrupted: for every machine the program's Interrupted answers as the document's model does, the machine field by field and which one; nothing that was there is written, and its answer is memory of its own, behind another call too.
-/
import Derived.Test.YtocofjimkfffeaaRows
import Derived.WalkKit
import Derived.ProofKit
import Derived.OpenShut
import Derived.Test.YtocofjimkfffeaaBase
import Derived.Test.YtocofjimkfffeaaRow
import Derived.Test.YtocofjimkfffeaaRow2
import Derived.Test.YtocofjimkfffeaaNum
import Derived.Test.YtocofjimkfffeaaSlc
import Derived.Test.YtocofjimkfffeaaRom
import Derived.Test.YtocofjimkfffeaaRomOf
import Derived.Test.YtocofjimkfffeaaTmr
import Derived.Test.YtocofjimkfffeaaReg
import Derived.Test.YtocofjimkfffeaaSrl
import Derived.Test.YtocofjimkfffeaaSrl2
import Derived.Test.YtocofjimkfffeaaSrl3
import Derived.Test.YtocofjimkfffeaaSrl4
import Derived.Test.YtocofjimkfffeaaSrlI
import Derived.Test.YtocofjimkfffeaaSrlI2
import Derived.Test.YtocofjimkfffeaaMc
import Derived.Test.YtocofjimkfffeaaMcW
import Derived.Test.YtocofjimkfffeaaReg2
import Derived.Test.YtocofjimkfffeaaMp
import Derived.Test.YtocofjimkfffeaaReg3
import Derived.Test.YtocofjimkfffeaaReg4
import Derived.Test.YtocofjimkfffeaaMcNew
import Derived.Test.YtocofjimkfffeaaEx
import Derived.Test.YtocofjimkfffeaaTmr2
import Derived.Test.YtocofjimkfffeaaTmr3
import Derived.Test.YtocofjimkfffeaaTmr4
import Derived.Test.YtocofjimkfffeaaMcLaw
import Derived.Test.YtocofjimkfffeaaMcEx
import Derived.Test.YtocofjimkfffeaaMcOk
import Derived.Test.YtocofjimkfffeaaMcRead
import Derived.Test.YtocofjimkfffeaaMcOkI
import Derived.Test.YtocofjimkfffeaaPorts
import Derived.Test.YtocofjimkfffeaaMcReadI
import Derived.Test.YtocofjimkfffeaaMcCopyI
import Derived.Test.YtocofjimkfffeaaMcWriteI
import Derived.Test.YtocofjimkfffeaaMcWriteJ
import Derived.Test.YtocofjimkfffeaaOp
import Derived.Test.YtocofjimkfffeaaCp
import Derived.Test.YtocofjimkfffeaaCp2
import Derived.Test.YtocofjimkfffeaaIq
import Derived.Test.YtocofjimkfffeaaReg6
import Derived.Test.YtocofjimkfffeaaReg7
import Derived.Test.YtocofjimkfffeaaMcCopy
import Derived.Test.YtocofjimkfffeaaMcWrite
import Derived.Test.YtocofjimkfffeaaOps
import Derived.Test.YtocofjimkfffeaaSp
import Derived.Test.YtocofjimkfffeaaSp2
import Derived.Test.YtocofjimkfffeaaIq2
import Derived.Test.YtocofjimkfffeaaDe
import Derived.Test.YtocofjimkfffeaaIq3
import Derived.Test.YtocofjimkfffeaaIqEx
import Derived.Test.YtocofjimkfffeaaArg
import Derived.Test.YtocofjimkfffeaaArgSr
import Derived.Test.YtocofjimkfffeaaArgMc
import Derived.ShutString
import Derived.ChangeOld
import Derived.Below
namespace Go.Proofs.Ytocofjimkfffeaa.fnExactInterrupted
open Go.ChangeShapes Go.WideShapes Go.ChangeAt Go.RowKit
open Go.ChangeMaps (open_string shut_string)
set_option linter.unusedVariables false

theorem own : ownKnob Try.prog.godebug = none := by kernel_rfl
theorem laidOut : laidOutB Try.prog = true := by kernel_rfl

theorem walk (v0 : Value) (w : World) (h0 : Args.Arg 28 w v0) :
    Calls Try.prog 4 #[v0] w fun e w' => e = .returned (.bool true) ∧ Below w.heap.size w w' := by
  obtain ⟨m, vr, va, rfl, hr, ha⟩ := h0.machine
  exact Mem.exInterrupted m vr va w hr ha

set_option maxRecDepth 100000 in
theorem lifted (os : Os) (started : os.Started) (H : Type) (enc : TypeId × Value → H) :
    ReturnsInHanded {} Try.checked os 4 .any (Rows.fnExactInterruptedSpec.pre6 enc Try.prog Try.f4 Rows.fnExactInterruptedRow.domain false) (Rows.fnExactInterruptedSpec.post enc Try.prog Try.f4 false true false false) := by
  refine returnsInHanded_of_change (C := Try.checked) own started (by kernel_rfl) Try.func4
    (ChangeSpec.witness6 (enc := enc) (C := Try.checked) false ⟨#[], #[.agg #[.slice none 0 0, .slice none 0 0, .int .i64 0, .int .i64 0, .int .i64 0, .int .i64 0, .bool false, .bool false, .bool false, .bool false, .bool false, .int .i64 0, .int .i64 0, .int .i64 0, .int .i64 0, .int .i64 0, .int .i64 0, .int .i64 0, .int .i64 0, .bool false, .bool false, .int .i64 0, .int .i64 0, .bool false, .int .i64 0]], []⟩ 8 (by kernel_rfl) (by kernel_rfl) (by kernel_rfl) (by kernel_rfl)) ?_
  intro W base args ds gs before hval0 hW hcnd _
  have hval : ∀ (j : Nat) t v, Try.f4.params[j]? = some t → args[j]? = some v → Value.okWide Try.prog W .any base t v := hval0
  have hW' := hW
  obtain ⟨p, q, hA0, hV, rfl, hfz, hnd⟩ := hW
  have hA : DataW.TrodAll enc Try.prog W 0 (fun _ => true) true Try.f4.params.toList args.toList ds p := hA0
  rw [Try.params4] at hA hval
  obtain ⟨v0, vs0, d0, ds0, p0, q0, hargs, rfl, rfl, h0, r0⟩ := trodAll_cons hA
  obtain ⟨rfl, rfl, rfl⟩ := trodAll_nil r0
  obtain rfl : args = #[v0] := by cases args; simp_all
  obtain ⟨rfl, rfl⟩ := trodVars_none hV
  have lt0 : ∀ x ∈ p0, x.block < W.heap.size := by obtain ⟨m, hm⟩ := h0; exact DataW.trod_lt m _ _ _ hm
  have a0 : Args.Arg 28 W v0 := ⟨H, enc, base, d0, p0, hval 0 28 v0 rfl rfl, h0⟩
  clear hA0 hval0
  refine (walk v0 W a0).mono fun e W' ⟨he, bel⟩ => ?_
  subst he
  exact ⟨_, rfl, _, _, _, [], _, [], hW', trodAll_mk1 (shut_bool Try.underlying4 _), (trodAll_cons_mk (Below.trod laidOut (by kernel_rfl) (of_decide_eq_true (by kernel_rfl)) h0 bel lt0) trodAll_mk0), rfl, bel.frame _, fun h => by cases h⟩

theorem over : Rows.fnExactInterruptedRow.holds Try.pinned (OpenSpec.ofChange Rows.fnExactInterruptedSpec) :=
  OpenClaim.holds_of_wide 4 Try.f4 rfl rfl rfl rfl rfl rfl rfl ⟨rfl, rfl, rfl, rfl, rfl⟩ rfl rfl rfl rfl rfl (by kernel_rfl) Try.func4 (by kernel_rfl)
    (of_decide_eq_true (by kernel_rfl)) (by unfold Func.isWrapper; first | (rw [if_pos (by decide +kernel)]; kernel_rfl) | (rw [if_neg (by decide +kernel)]; exact ⟨rfl, rfl⟩))
    (fun os started H enc _ => lifted os started H enc)

theorem proved : Rows.FnExactInterruptedSaid := over
#print axioms proved
end Go.Proofs.Ytocofjimkfffeaa.fnExactInterrupted
