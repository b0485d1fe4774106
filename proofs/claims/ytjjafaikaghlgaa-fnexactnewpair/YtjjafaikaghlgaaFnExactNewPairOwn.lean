/-
  FnExactNewPair: for every two lists of numbers and every two lists of messages the program's NewPair answers as the document's model does, the pair field by field and whether it is one; nothing that was there is written, and its answer is memory of its own, behind another call too.
-/
import Derived.Test.YtjjafaikaghlgaaRows
import Derived.WalkKit
import Derived.ProofKit
import Derived.OpenShut
import Derived.Test.YtjjafaikaghlgaaNum
import Derived.Test.YtjjafaikaghlgaaBase
import Derived.Test.YtjjafaikaghlgaaSlc
import Derived.Test.YtjjafaikaghlgaaRow
import Derived.Test.YtjjafaikaghlgaaTmr
import Derived.Test.YtjjafaikaghlgaaIbx
import Derived.Test.YtjjafaikaghlgaaReg
import Derived.Test.YtjjafaikaghlgaaSlf
import Derived.Test.YtjjafaikaghlgaaMsg
import Derived.Test.YtjjafaikaghlgaaRom
import Derived.Test.YtjjafaikaghlgaaSrl
import Derived.Test.YtjjafaikaghlgaaSrlI
import Derived.Test.YtjjafaikaghlgaaMc
import Derived.Test.YtjjafaikaghlgaaNst
import Derived.Test.YtjjafaikaghlgaaRegs
import Derived.Test.YtjjafaikaghlgaaGat
import Derived.Test.YtjjafaikaghlgaaInb
import Derived.Test.YtjjafaikaghlgaaEx
import Derived.Test.YtjjafaikaghlgaaMsgLaw
import Derived.Test.YtjjafaikaghlgaaMsgMk
import Derived.Test.YtjjafaikaghlgaaEvMk
import Derived.Test.YtjjafaikaghlgaaMcW
import Derived.Test.YtjjafaikaghlgaaMcNew
import Derived.Test.YtjjafaikaghlgaaMcLaw
import Derived.Test.YtjjafaikaghlgaaPrLaw
import Derived.Test.YtjjafaikaghlgaaPrMk
import Derived.Test.YtjjafaikaghlgaaPrMm
import Derived.Test.YtjjafaikaghlgaaPrMh
import Derived.Test.YtjjafaikaghlgaaTwo
import Derived.Test.YtjjafaikaghlgaaVat
import Derived.Test.YtjjafaikaghlgaaTrn
import Derived.Test.YtjjafaikaghlgaaKrl
import Derived.Test.YtjjafaikaghlgaaPrAr
import Derived.Test.YtjjafaikaghlgaaInI
import Derived.Test.YtjjafaikaghlgaaMcOk
import Derived.Test.YtjjafaikaghlgaaMcOkI
import Derived.Test.YtjjafaikaghlgaaPrOk
import Derived.Test.YtjjafaikaghlgaaKys
import Derived.Test.YtjjafaikaghlgaaInb2
import Derived.Test.YtjjafaikaghlgaaInJ
import Derived.Test.YtjjafaikaghlgaaVax
import Derived.Test.YtjjafaikaghlgaaPrNw
import Derived.Test.YtjjafaikaghlgaaPrMp
import Derived.Test.YtjjafaikaghlgaaPrNs
import Derived.Test.YtjjafaikaghlgaaPrHd
import Derived.Test.YtjjafaikaghlgaaMcEx
import Derived.Test.YtjjafaikaghlgaaPrEx
import Derived.Test.YtjjafaikaghlgaaPrNx
import Derived.Test.YtjjafaikaghlgaaArg
import Derived.Test.YtjjafaikaghlgaaArgSr
import Derived.Test.YtjjafaikaghlgaaArgMc
import Derived.Test.YtjjafaikaghlgaaArgM
import Derived.Test.YtjjafaikaghlgaaArgI
import Derived.ShutString
import Derived.ChangeOld
import Derived.Below
namespace Go.Proofs.Ytjjafaikaghlgaa.fnExactNewPair
open Go.ChangeShapes Go.WideShapes Go.ChangeAt Go.RowKit
open Go.ChangeMaps (open_string shut_string)
set_option linter.unusedVariables false

theorem own : ownKnob Try.prog.godebug = none := by kernel_rfl
theorem laidOut : laidOutB Try.prog = true := by kernel_rfl

theorem walk (v0 v1 v2 v3 : Value) (w : World) (h0 : Args.Arg 37 w v0) (h1 : Args.Arg 37 w v1) (h2 : Args.Arg 38 w v2) (h3 : Args.Arg 38 w v3) :
    Calls Try.prog 4 #[v0, v1, v2, v3] w fun e w' => e = .returned (.bool true) ∧ Below w.heap.size w w' := by
  obtain ⟨a, ha⟩ := h0.ints
  obtain ⟨b, hb⟩ := h1.ints
  obtain ⟨la, hla⟩ := h2.msgs
  obtain ⟨lb, hlb⟩ := h3.msgs
  exact Mem.exNewPair v0 v1 v2 v3 a b la lb w ha hb hla hlb

set_option maxRecDepth 100000 in
theorem lifted (os : Os) (started : os.Started) (H : Type) (enc : TypeId × Value → H) :
    ReturnsInHanded {} Try.checked os 4 .any (Rows.fnExactNewPairSpec.pre6 enc Try.prog Try.f4 Rows.fnExactNewPairRow.domain false) (Rows.fnExactNewPairSpec.post enc Try.prog Try.f4 false true false false) := by
  refine returnsInHanded_of_change (C := Try.checked) own started (by kernel_rfl) Try.func4
    (ChangeSpec.witness6 (enc := enc) (C := Try.checked) false ⟨#[], #[.slice none 0 0, .slice none 0 0, .slice none 0 0, .slice none 0 0], []⟩ 8 (by kernel_rfl) (by kernel_rfl) (by kernel_rfl) (by kernel_rfl)) ?_
  intro W base args ds gs before hval0 hW hcnd _
  have hval : ∀ (j : Nat) t v, Try.f4.params[j]? = some t → args[j]? = some v → Value.okWide Try.prog W .any base t v := hval0
  have hW' := hW
  obtain ⟨p, q, hA0, hV, rfl, hfz, hnd⟩ := hW
  have hA : DataW.TrodAll enc Try.prog W 0 (fun _ => true) true Try.f4.params.toList args.toList ds p := hA0
  rw [Try.params4] at hA hval
  obtain ⟨v0, vs0, d0, ds0, p0, q0, hargs, rfl, rfl, h0, r0⟩ := trodAll_cons hA
  obtain ⟨v1, vs1, d1, ds1, p1, q1, rfl, rfl, rfl, h1, r1⟩ := trodAll_cons r0
  obtain ⟨v2, vs2, d2, ds2, p2, q2, rfl, rfl, rfl, h2, r2⟩ := trodAll_cons r1
  obtain ⟨v3, vs3, d3, ds3, p3, q3, rfl, rfl, rfl, h3, r3⟩ := trodAll_cons r2
  obtain ⟨rfl, rfl, rfl⟩ := trodAll_nil r3
  obtain rfl : args = #[v0, v1, v2, v3] := by cases args; simp_all
  obtain ⟨rfl, rfl⟩ := trodVars_none hV
  have lt0 : ∀ x ∈ p0, x.block < W.heap.size := by obtain ⟨m, hm⟩ := h0; exact DataW.trod_lt m _ _ _ hm
  have a0 : Args.Arg 37 W v0 := ⟨H, enc, base, d0, p0, hval 0 37 v0 rfl rfl, h0⟩
  have lt1 : ∀ x ∈ p1, x.block < W.heap.size := by obtain ⟨m, hm⟩ := h1; exact DataW.trod_lt m _ _ _ hm
  have a1 : Args.Arg 37 W v1 := ⟨H, enc, base, d1, p1, hval 1 37 v1 rfl rfl, h1⟩
  have lt2 : ∀ x ∈ p2, x.block < W.heap.size := by obtain ⟨m, hm⟩ := h2; exact DataW.trod_lt m _ _ _ hm
  have a2 : Args.Arg 38 W v2 := ⟨H, enc, base, d2, p2, hval 2 38 v2 rfl rfl, h2⟩
  have lt3 : ∀ x ∈ p3, x.block < W.heap.size := by obtain ⟨m, hm⟩ := h3; exact DataW.trod_lt m _ _ _ hm
  have a3 : Args.Arg 38 W v3 := ⟨H, enc, base, d3, p3, hval 3 38 v3 rfl rfl, h3⟩
  clear hA0 hval0
  refine (walk v0 v1 v2 v3 W a0 a1 a2 a3).mono fun e W' ⟨he, bel⟩ => ?_
  subst he
  exact ⟨_, rfl, _, _, _, [], _, [], hW', trodAll_mk1 (shut_bool Try.underlying4 _), (trodAll_cons_mk (Below.trod laidOut (by kernel_rfl) (of_decide_eq_true (by kernel_rfl)) h0 bel lt0) (trodAll_cons_mk (Below.trod laidOut (by kernel_rfl) (of_decide_eq_true (by kernel_rfl)) h1 bel lt1) (trodAll_cons_mk (Below.trod laidOut (by kernel_rfl) (of_decide_eq_true (by kernel_rfl)) h2 bel lt2) (trodAll_cons_mk (Below.trod laidOut (by kernel_rfl) (of_decide_eq_true (by kernel_rfl)) h3 bel lt3) trodAll_mk0)))), rfl, bel.frame _, fun h => by cases h⟩

theorem over : Rows.fnExactNewPairRow.holds Try.pinned (OpenSpec.ofChange Rows.fnExactNewPairSpec) :=
  OpenClaim.holds_of_wide 4 Try.f4 rfl rfl rfl rfl rfl rfl rfl ⟨rfl, rfl, rfl, rfl, rfl⟩ rfl rfl rfl rfl rfl (by kernel_rfl) Try.func4 (by kernel_rfl)
    (of_decide_eq_true (by kernel_rfl)) (by unfold Func.isWrapper; first | (rw [if_pos (by decide +kernel)]; kernel_rfl) | (rw [if_neg (by decide +kernel)]; exact ⟨rfl, rfl⟩))
    (fun os started H enc _ => lifted os started H enc)

theorem proved : Rows.FnExactNewPairSaid := over
#print axioms proved
end Go.Proofs.Ytjjafaikaghlgaa.fnExactNewPair
