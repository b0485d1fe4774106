/-
  FnExactReadAt: for every machine and every place the program's ReadAt answers as the document's model does; nothing that was there is written.
-/
import Derived.Test.YtogmhpjelmlonaaRows
import Derived.WalkKit
import Derived.ProofKit
import Derived.OpenShut
import Derived.Test.YtogmhpjelmlonaaNum
import Derived.Test.YtogmhpjelmlonaaBase
import Derived.Test.YtogmhpjelmlonaaTmr
import Derived.Test.YtogmhpjelmlonaaArg
import Derived.Test.YtogmhpjelmlonaaSlc
import Derived.Test.YtogmhpjelmlonaaRow
import Derived.Test.YtogmhpjelmlonaaReg
import Derived.Test.YtogmhpjelmlonaaSrl
import Derived.Test.YtogmhpjelmlonaaArgSr
import Derived.Test.YtogmhpjelmlonaaRow2
import Derived.Test.YtogmhpjelmlonaaRom
import Derived.Test.YtogmhpjelmlonaaRomOf
import Derived.Test.YtogmhpjelmlonaaSrl2
import Derived.Test.YtogmhpjelmlonaaSrl3
import Derived.Test.YtogmhpjelmlonaaSrl4
import Derived.Test.YtogmhpjelmlonaaSrlI
import Derived.Test.YtogmhpjelmlonaaSrlI2
import Derived.Test.YtogmhpjelmlonaaMc
import Derived.Test.YtogmhpjelmlonaaArgMc
import Derived.Test.YtogmhpjelmlonaaMcW
import Derived.Test.YtogmhpjelmlonaaReg2
import Derived.Test.YtogmhpjelmlonaaMp
import Derived.Test.YtogmhpjelmlonaaReg3
import Derived.Test.YtogmhpjelmlonaaReg4
import Derived.Test.YtogmhpjelmlonaaMcNew
import Derived.Test.YtogmhpjelmlonaaEx
import Derived.Test.YtogmhpjelmlonaaTmr2
import Derived.Test.YtogmhpjelmlonaaTmr3
import Derived.Test.YtogmhpjelmlonaaTmr4
import Derived.Test.YtogmhpjelmlonaaMcLaw
import Derived.Test.YtogmhpjelmlonaaMcEx
import Derived.Test.YtogmhpjelmlonaaMcOk
import Derived.Test.YtogmhpjelmlonaaMcRead
import Derived.Test.YtogmhpjelmlonaaMcOkI
import Derived.Test.YtogmhpjelmlonaaPorts
import Derived.Test.YtogmhpjelmlonaaMcReadI
import Derived.Test.YtogmhpjelmlonaaMcExRd
import Derived.ShutString
import Derived.ChangeOld
import Derived.Below
namespace Go.Proofs.Ytogmhpjelmlonaa.fnExactReadAt
open Go.ChangeShapes Go.WideShapes Go.ChangeAt Go.RowKit
open Go.ChangeMaps (open_string shut_string)
set_option linter.unusedVariables false

theorem own : ownKnob Try.prog.godebug = none := by kernel_rfl
theorem laidOut : laidOutB Try.prog = true := by kernel_rfl

theorem walk (v0 v1 : Value) (w : World) (h0 : Args.Arg 52 w v0) (h1 : Args.Arg 2 w v1) :
    Calls Try.prog 6 #[v0, v1] w fun e w' => e = .returned (.bool true) ∧ Below w.heap.size w w' := by
  obtain ⟨m, vr, va, rfl, hr, ha⟩ := h0.machine
  obtain ⟨q, rfl, _⟩ := h1.int
  exact Mem.exReadAt m vr va q w hr ha

set_option maxRecDepth 100000 in
theorem lifted (os : Os) (started : os.Started) (H : Type) (enc : TypeId × Value → H) :
    ReturnsInHanded {} Try.checked os 6 .any (Rows.fnExactReadAtSpec.pre6 enc Try.prog Try.f6 Rows.fnExactReadAtRow.domain false) (Rows.fnExactReadAtSpec.post enc Try.prog Try.f6 false true false false) := by
  refine returnsInHanded_of_change (C := Try.checked) own started (by kernel_rfl) Try.func6
    (ChangeSpec.witness6 (enc := enc) (C := Try.checked) false ⟨#[], #[.agg #[.slice none 0 0, .slice none 0 0, .int .i64 0, .int .i64 0, .int .i64 0, .int .i64 0, .bool false, .bool false, .bool false, .bool false, .bool false, .int .i64 0, .int .i64 0, .int .i64 0, .int .i64 0, .int .i64 0, .int .i64 0, .int .i64 0, .int .i64 0, .bool false, .bool false, .int .i64 0, .int .i64 0, .bool false, .int .i64 0], .int .i64 0], []⟩ 8 (by kernel_rfl) (by kernel_rfl) (by kernel_rfl) (by kernel_rfl)) ?_
  intro W base args ds gs before hval0 hW hcnd _
  have hval : ∀ (j : Nat) t v, Try.f6.params[j]? = some t → args[j]? = some v → Value.okWide Try.prog W .any base t v := hval0
  have hW' := hW
  obtain ⟨p, q, hA0, hV, rfl, hfz, hnd⟩ := hW
  have hA : DataW.TrodAll enc Try.prog W 0 (fun _ => true) true Try.f6.params.toList args.toList ds p := hA0
  rw [Try.params6] at hA hval
  obtain ⟨v0, vs0, d0, ds0, p0, q0, hargs, rfl, rfl, h0, r0⟩ := trodAll_cons hA
  obtain ⟨v1, vs1, d1, ds1, p1, q1, rfl, rfl, rfl, h1, r1⟩ := trodAll_cons r0
  obtain ⟨rfl, rfl, rfl⟩ := trodAll_nil r1
  obtain rfl : args = #[v0, v1] := by cases args; simp_all
  obtain ⟨rfl, rfl⟩ := trodVars_none hV
  have lt0 : ∀ x ∈ p0, x.block < W.heap.size := by obtain ⟨m, hm⟩ := h0; exact DataW.trod_lt m _ _ _ hm
  have a0 : Args.Arg 52 W v0 := ⟨H, enc, base, d0, p0, hval 0 52 v0 rfl rfl, h0⟩
  have lt1 : ∀ x ∈ p1, x.block < W.heap.size := by obtain ⟨m, hm⟩ := h1; exact DataW.trod_lt m _ _ _ hm
  have a1 : Args.Arg 2 W v1 := ⟨H, enc, base, d1, p1, hval 1 2 v1 rfl rfl, h1⟩
  clear hA0 hval0
  refine (walk v0 v1 W a0 a1).mono fun e W' ⟨he, bel⟩ => ?_
  subst he
  exact ⟨_, rfl, _, _, _, [], _, [], hW', trodAll_mk1 (shut_bool Try.underlying4 _), (trodAll_cons_mk (Below.trod laidOut (by kernel_rfl) (of_decide_eq_true (by kernel_rfl)) h0 bel lt0) (trodAll_cons_mk (Below.trod laidOut (by kernel_rfl) (of_decide_eq_true (by kernel_rfl)) h1 bel lt1) trodAll_mk0)), rfl, bel.frame _, fun h => by cases h⟩

theorem over : Rows.fnExactReadAtRow.holds Try.pinned (OpenSpec.ofChange Rows.fnExactReadAtSpec) :=
  OpenClaim.holds_of_wide 6 Try.f6 rfl rfl rfl rfl rfl rfl rfl ⟨rfl, rfl, rfl, rfl, rfl⟩ rfl rfl rfl rfl rfl (by kernel_rfl) Try.func6 (by kernel_rfl)
    (of_decide_eq_true (by kernel_rfl)) (by unfold Func.isWrapper; first | (rw [if_pos (by decide +kernel)]; kernel_rfl) | (rw [if_neg (by decide +kernel)]; exact ⟨rfl, rfl⟩))
    (fun os started H enc _ => lifted os started H enc)

theorem proved : Rows.FnExactReadAtSaid := over
#print axioms proved
end Go.Proofs.Ytogmhpjelmlonaa.fnExactReadAt
