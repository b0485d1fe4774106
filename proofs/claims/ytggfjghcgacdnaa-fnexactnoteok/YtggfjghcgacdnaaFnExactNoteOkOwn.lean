/-
  FnExactNoteOk: for every note the program's NoteOk answers as the document's model does; nothing that was there is written.
-/
import Derived.Test.YtggfjghcgacdnaaRows
import Derived.WalkKit
import Derived.ProofKit
import Derived.OpenShut
import Derived.Test.YtggfjghcgacdnaaNum
import Derived.Test.YtggfjghcgacdnaaBase
import Derived.Test.YtggfjghcgacdnaaSlc
import Derived.Test.YtggfjghcgacdnaaRow
import Derived.Test.YtggfjghcgacdnaaTmr
import Derived.Test.YtggfjghcgacdnaaIbx
import Derived.Test.YtggfjghcgacdnaaReg
import Derived.Test.YtggfjghcgacdnaaSlf
import Derived.Test.YtggfjghcgacdnaaMsg
import Derived.Test.YtggfjghcgacdnaaRegs
import Derived.Test.YtggfjghcgacdnaaGat
import Derived.Test.YtggfjghcgacdnaaInb
import Derived.Test.YtggfjghcgacdnaaInI
import Derived.Test.YtggfjghcgacdnaaNt
import Derived.Test.YtggfjghcgacdnaaOwA
import Derived.Test.YtggfjghcgacdnaaTwo
import Derived.Test.YtggfjghcgacdnaaVat
import Derived.Test.YtggfjghcgacdnaaTrn
import Derived.Test.YtggfjghcgacdnaaKrl
import Derived.Test.YtggfjghcgacdnaaKrm
import Derived.Test.YtggfjghcgacdnaaPp
import Derived.Test.YtggfjghcgacdnaaPpW
import Derived.Test.YtggfjghcgacdnaaPpF
import Derived.Test.YtggfjghcgacdnaaEx
import Derived.Test.YtggfjghcgacdnaaMsgLaw
import Derived.Test.YtggfjghcgacdnaaNtLaw
import Derived.Test.YtggfjghcgacdnaaMsgMk
import Derived.Test.YtggfjghcgacdnaaNtMk
import Derived.Test.YtggfjghcgacdnaaPpLaw
import Derived.Test.YtggfjghcgacdnaaPpEx
import Derived.Test.YtggfjghcgacdnaaArg
import Derived.Test.YtggfjghcgacdnaaArgM
import Derived.Test.YtggfjghcgacdnaaArgN
import Derived.ShutString
import Derived.ChangeOld
import Derived.Below
namespace Go.Proofs.Ytggfjghcgacdnaa.fnExactNoteOk
open Go.ChangeShapes Go.WideShapes Go.ChangeAt Go.RowKit
open Go.ChangeMaps (open_string shut_string)
set_option linter.unusedVariables false

theorem own : ownKnob Try.prog.godebug = none := by kernel_rfl
theorem laidOut : laidOutB Try.prog = true := by kernel_rfl

theorem walk (v0 : Value) (w : World) (h0 : Args.Arg 47 w v0) :
    Calls Try.prog 4 #[v0] w fun e w' => e = .returned (.bool true) ∧ Below w.heap.size w w' := by
  obtain ⟨n, rfl⟩ := h0.note
  exact Mem.exNoteOk n w

set_option maxRecDepth 100000 in
theorem lifted (os : Os) (started : os.Started) (H : Type) (enc : TypeId × Value → H) :
    ReturnsInHanded {} Try.checked os 4 .any (Rows.fnExactNoteOkSpec.pre6 enc Try.prog Try.f4 Rows.fnExactNoteOkRow.domain false) (Rows.fnExactNoteOkSpec.post enc Try.prog Try.f4 false true false false) := by
  refine returnsInHanded_of_change (C := Try.checked) own started (by kernel_rfl) Try.func4
    (ChangeSpec.witness6 (enc := enc) (C := Try.checked) false ⟨#[], #[.agg #[.bool false, .int .i64 0, .int .i64 0, .int .i64 0, .int .i64 0]], []⟩ 8 (by kernel_rfl) (by kernel_rfl) (by kernel_rfl) (by kernel_rfl)) ?_
  intro W base args ds gs before hval0 hW hcnd _
  have hval : ∀ (j : Nat) t v, Try.f4.params[j]? = some t → args[j]? = some v → Value.okWide Try.prog W .any base t v := hval0
  have hW' := hW
  obtain ⟨p, q, hA0, hV, rfl, hfz, hnd⟩ := hW
  have hA : DataW.TrodAll enc Try.prog W 0 (fun _ => true) true Try.f4.params.toList args.toList ds p := hA0
  rw [Try.params4] at hA hval
  obtain ⟨v0, vs0, d0, ds0, p0, q0, hargs, rfl, rfl, h0, r0⟩ := trodAll_cons hA
  obtain ⟨rfl, rfl, rfl⟩ := trodAll_nil r0
  obtain rfl : args = #[v0] := by cases args; simp_all
  obtain ⟨rfl, rfl⟩ := trodVars_none hV
  have lt0 : ∀ x ∈ p0, x.block < W.heap.size := by obtain ⟨m, hm⟩ := h0; exact DataW.trod_lt m _ _ _ hm
  have a0 : Args.Arg 47 W v0 := ⟨H, enc, base, d0, p0, hval 0 47 v0 rfl rfl, h0⟩
  clear hA0 hval0
  refine (walk v0 W a0).mono fun e W' ⟨he, bel⟩ => ?_
  subst he
  exact ⟨_, rfl, _, _, _, [], _, [], hW', trodAll_mk1 (shut_bool Try.underlying4 _), (trodAll_cons_mk (Below.trod laidOut (by kernel_rfl) (of_decide_eq_true (by kernel_rfl)) h0 bel lt0) trodAll_mk0), rfl, bel.frame _, fun h => by cases h⟩

theorem over : Rows.fnExactNoteOkRow.holds Try.pinned (OpenSpec.ofChange Rows.fnExactNoteOkSpec) :=
  OpenClaim.holds_of_wide 4 Try.f4 rfl rfl rfl rfl rfl rfl rfl ⟨rfl, rfl, rfl, rfl, rfl⟩ rfl rfl rfl rfl rfl (by kernel_rfl) Try.func4 (by kernel_rfl)
    (of_decide_eq_true (by kernel_rfl)) (by unfold Func.isWrapper; first | (rw [if_pos (by decide +kernel)]; kernel_rfl) | (rw [if_neg (by decide +kernel)]; exact ⟨rfl, rfl⟩))
    (fun os started H enc _ => lifted os started H enc)

theorem proved : Rows.FnExactNoteOkSaid := over
#print axioms proved
end Go.Proofs.Ytggfjghcgacdnaa.fnExactNoteOk
