/-
  FnExactPairOk: for every pair the program's PairOk answers as the document's model does; nothing that was there is written.
-/
import Derived.Test.YtjjafaikaghlgaaRows
import Derived.WalkKit
import Derived.ProofKit
import Derived.OpenShut
import Derived.Test.YtjjafaikaghlgaaNum
import Derived.Test.YtjjafaikaghlgaaBase
import Derived.Test.YtjjafaikaghlgaaSlc
import Derived.Test.YtjjafaikaghlgaaRow
import Derived.Test.YtjjafaikaghlgaaTmr
import Derived.Test.YtjjafaikaghlgaaIbx
import Derived.Test.YtjjafaikaghlgaaReg
import Derived.Test.YtjjafaikaghlgaaSlf
import Derived.Test.YtjjafaikaghlgaaMsg
import Derived.Test.YtjjafaikaghlgaaRom
import Derived.Test.YtjjafaikaghlgaaSrl
import Derived.Test.YtjjafaikaghlgaaSrlI
import Derived.Test.YtjjafaikaghlgaaMc
import Derived.Test.YtjjafaikaghlgaaNst
import Derived.Test.YtjjafaikaghlgaaRegs
import Derived.Test.YtjjafaikaghlgaaGat
import Derived.Test.YtjjafaikaghlgaaInb
import Derived.Test.YtjjafaikaghlgaaEx
import Derived.Test.YtjjafaikaghlgaaMsgLaw
import Derived.Test.YtjjafaikaghlgaaMsgMk
import Derived.Test.YtjjafaikaghlgaaEvMk
import Derived.Test.YtjjafaikaghlgaaMcW
import Derived.Test.YtjjafaikaghlgaaMcNew
import Derived.Test.YtjjafaikaghlgaaMcLaw
import Derived.Test.YtjjafaikaghlgaaPrLaw
import Derived.Test.YtjjafaikaghlgaaInI
import Derived.Test.YtjjafaikaghlgaaMcOk
import Derived.Test.YtjjafaikaghlgaaMcOkI
import Derived.Test.YtjjafaikaghlgaaPrOk
import Derived.Test.YtjjafaikaghlgaaMcEx
import Derived.Test.YtjjafaikaghlgaaPrEx
import Derived.Test.YtjjafaikaghlgaaArg
import Derived.Test.YtjjafaikaghlgaaArgSr
import Derived.Test.YtjjafaikaghlgaaArgMc
import Derived.Test.YtjjafaikaghlgaaArgM
import Derived.Test.YtjjafaikaghlgaaArgP
import Derived.ShutString
import Derived.ChangeOld
import Derived.Below
namespace Go.Proofs.Ytjjafaikaghlgaa.fnExactPairOk
open Go.ChangeShapes Go.WideShapes Go.ChangeAt Go.RowKit
open Go.ChangeMaps (open_string shut_string)
set_option linter.unusedVariables false

theorem own : ownKnob Try.prog.godebug = none := by kernel_rfl
theorem laidOut : laidOutB Try.prog = true := by kernel_rfl

theorem walk (v0 : Value) (w : World) (h0 : Args.Arg 26 w v0) :
    Calls Try.prog 3 #[v0] w fun e w' => e = .returned (.bool true) ∧ Below w.heap.size w w' := by
  obtain ⟨p, hp⟩ := h0.pair
  exact Mem.exPairOk v0 p w hp

set_option maxRecDepth 100000 in
theorem lifted (os : Os) (started : os.Started) (H : Type) (enc : TypeId × Value → H) :
    ReturnsInHanded {} Try.checked os 3 .any (Rows.fnExactPairOkSpec.pre6 enc Try.prog Try.f3 Rows.fnExactPairOkRow.domain false) (Rows.fnExactPairOkSpec.post enc Try.prog Try.f3 false true false false) := by
  refine returnsInHanded_of_change (C := Try.checked) own started (by kernel_rfl) Try.func3
    (ChangeSpec.witness6 (enc := enc) (C := Try.checked) false ⟨#[], #[.agg #[.slice none 0 0, .slice none 0 0, .slice none 0 0]], []⟩ 8 (by kernel_rfl) (by kernel_rfl) (by kernel_rfl) (by kernel_rfl)) ?_
  intro W base args ds gs before hval0 hW hcnd _
  have hval : ∀ (j : Nat) t v, Try.f3.params[j]? = some t → args[j]? = some v → Value.okWide Try.prog W .any base t v := hval0
  have hW' := hW
  obtain ⟨p, q, hA0, hV, rfl, hfz, hnd⟩ := hW
  have hA : DataW.TrodAll enc Try.prog W 0 (fun _ => true) true Try.f3.params.toList args.toList ds p := hA0
  rw [Try.params3] at hA hval
  obtain ⟨v0, vs0, d0, ds0, p0, q0, hargs, rfl, rfl, h0, r0⟩ := trodAll_cons hA
  obtain ⟨rfl, rfl, rfl⟩ := trodAll_nil r0
  obtain rfl : args = #[v0] := by cases args; simp_all
  obtain ⟨rfl, rfl⟩ := trodVars_none hV
  have lt0 : ∀ x ∈ p0, x.block < W.heap.size := by obtain ⟨m, hm⟩ := h0; exact DataW.trod_lt m _ _ _ hm
  have a0 : Args.Arg 26 W v0 := ⟨H, enc, base, d0, p0, hval 0 26 v0 rfl rfl, h0⟩
  clear hA0 hval0
  refine (walk v0 W a0).mono fun e W' ⟨he, bel⟩ => ?_
  subst he
  exact ⟨_, rfl, _, _, _, [], _, [], hW', trodAll_mk1 (shut_bool Try.underlying4 _), (trodAll_cons_mk (Below.trod laidOut (by kernel_rfl) (of_decide_eq_true (by kernel_rfl)) h0 bel lt0) trodAll_mk0), rfl, bel.frame _, fun h => by cases h⟩

theorem over : Rows.fnExactPairOkRow.holds Try.pinned (OpenSpec.ofChange Rows.fnExactPairOkSpec) :=
  OpenClaim.holds_of_wide 3 Try.f3 rfl rfl rfl rfl rfl rfl rfl ⟨rfl, rfl, rfl, rfl, rfl⟩ rfl rfl rfl rfl rfl (by kernel_rfl) Try.func3 (by kernel_rfl)
    (of_decide_eq_true (by kernel_rfl)) (by unfold Func.isWrapper; first | (rw [if_pos (by decide +kernel)]; kernel_rfl) | (rw [if_neg (by decide +kernel)]; exact ⟨rfl, rfl⟩))
    (fun os started H enc _ => lifted os started H enc)

theorem proved : Rows.FnExactPairOkSaid := over
#print axioms proved
end Go.Proofs.Ytjjafaikaghlgaa.fnExactPairOk
