/-
  FnExactExecuted: for every machine the program's Executed answers as the document's model does, the machine field by field, the cost and what went out; nothing that was there is written, and its answer is memory of its own, behind another call too.
-/
import Derived.Test.YtmbncgeiaijnpaaGreatDoorCards
import Derived.Test.YtmbncgeiaijnpaaGreatDoorTie
import Derived.WalkKit
import Derived.ProofKit
import Derived.OpenShut
import Derived.Test.YtmbncgeiaijnpaaGreatDoorNum
import Derived.Test.YtmbncgeiaijnpaaGreatDoorBase
import Derived.Test.YtmbncgeiaijnpaaGreatDoorTmr
import Derived.Test.YtmbncgeiaijnpaaGreatDoorSlc
import Derived.Test.YtmbncgeiaijnpaaGreatDoorRow
import Derived.Test.YtmbncgeiaijnpaaGreatDoorReg
import Derived.Test.YtmbncgeiaijnpaaGreatDoorSrl
import Derived.Test.YtmbncgeiaijnpaaGreatDoorRow2
import Derived.Test.YtmbncgeiaijnpaaGreatDoorRom
import Derived.Test.YtmbncgeiaijnpaaGreatDoorRomOf
import Derived.Test.YtmbncgeiaijnpaaGreatDoorSrl2
import Derived.Test.YtmbncgeiaijnpaaGreatDoorSrl3
import Derived.Test.YtmbncgeiaijnpaaGreatDoorSrl4
import Derived.Test.YtmbncgeiaijnpaaGreatDoorSrlI
import Derived.Test.YtmbncgeiaijnpaaGreatDoorSrlI2
import Derived.Test.YtmbncgeiaijnpaaGreatDoorMc
import Derived.Test.YtmbncgeiaijnpaaGreatDoorOp
import Derived.Test.YtmbncgeiaijnpaaGreatDoorArgAll
import Derived.Test.YtmbncgeiaijnpaaGreatDoorMcW
import Derived.Test.YtmbncgeiaijnpaaGreatDoorReg2
import Derived.Test.YtmbncgeiaijnpaaGreatDoorMp
import Derived.Test.YtmbncgeiaijnpaaGreatDoorReg3
import Derived.Test.YtmbncgeiaijnpaaGreatDoorReg4
import Derived.Test.YtmbncgeiaijnpaaGreatDoorMcNew
import Derived.Test.YtmbncgeiaijnpaaGreatDoorEx
import Derived.Test.YtmbncgeiaijnpaaGreatDoorTmr2
import Derived.Test.YtmbncgeiaijnpaaGreatDoorTmr3
import Derived.Test.YtmbncgeiaijnpaaGreatDoorTmr4
import Derived.Test.YtmbncgeiaijnpaaGreatDoorMcLaw
import Derived.Test.YtmbncgeiaijnpaaGreatDoorMcOk
import Derived.Test.YtmbncgeiaijnpaaGreatDoorMcRead
import Derived.Test.YtmbncgeiaijnpaaGreatDoorMcOkI
import Derived.Test.YtmbncgeiaijnpaaGreatDoorPorts
import Derived.Test.YtmbncgeiaijnpaaGreatDoorMcReadI
import Derived.Test.YtmbncgeiaijnpaaGreatDoorMcCopyI
import Derived.Test.YtmbncgeiaijnpaaGreatDoorMcWriteI
import Derived.Test.YtmbncgeiaijnpaaGreatDoorMcWriteJ
import Derived.Test.YtmbncgeiaijnpaaGreatDoorCp
import Derived.Test.YtmbncgeiaijnpaaGreatDoorReg6
import Derived.Test.YtmbncgeiaijnpaaGreatDoorReg7
import Derived.Test.YtmbncgeiaijnpaaGreatDoorDe
import Derived.Test.YtmbncgeiaijnpaaGreatDoorDe2
import Derived.Test.YtmbncgeiaijnpaaGreatDoorOps
import Derived.Test.YtmbncgeiaijnpaaGreatDoorDe4
import Derived.Test.YtmbncgeiaijnpaaGreatDoorMcCopy
import Derived.Test.YtmbncgeiaijnpaaGreatDoorMcWrite
import Derived.Test.YtmbncgeiaijnpaaGreatDoorSp
import Derived.Test.YtmbncgeiaijnpaaGreatDoorSp2
import Derived.Test.YtmbncgeiaijnpaaGreatDoorSp3
import Derived.Test.YtmbncgeiaijnpaaGreatDoorSp4
import Derived.Test.YtmbncgeiaijnpaaGreatDoorMcExE
import Derived.ShutString
import Derived.ChangeOld
import Derived.Below
import Derived.Deep.DeepHandedRow
namespace Go.Proofs.YtmbncgeiaijnpaaGreatDoor.fnExactExecuted
open Go.ChangeShapes Go.WideShapes Go.ChangeAt Go.RowKit
open Go.ChangeMaps (open_string shut_string)
set_option linter.unusedVariables false

theorem own : ownKnob Tryz.prog.godebug = none := by kernel_rfl
theorem laidOut : laidOutB Tryz.prog = true := by kernel_rfl

theorem walk (v0 : Value) (w : World) (h0 : Args.Arg 42 w v0) (ho : Opl.OpsAt w) :
    Calls Tryz.prog 4 #[v0] w fun e w' => e = .returned (.bool true) ∧ Below w.heap.size w w' := by
  obtain ⟨m, vr, va, rfl, hr, ha⟩ := h0.machine
  exact Mem.exExecuted m vr va w ho hr ha

set_option maxRecDepth 100000 in
theorem contract (H : Type) (enc : TypeId × Value → H) (W : World) (base : Nat) (args : Array Value) (ds gs : List (DataW H)) (before : List MemPlace)
    (hval : ∀ (j : Nat) t v, Tryz.f4.params[j]? = some t → args[j]? = some v → Value.okWide Tryz.prog W .any base t v)
    (hW : DataW.Whole enc Tryz.prog Tryz.f4.params.toList Rows.fnExactExecutedSpec.vars false W args.toList ds gs before) (hL : laidMetH Tryz.prog Rows.fnExactExecutedRow.laid W) :
    Calls Tryz.prog 4 args W fun e W' => ∃ v, e = .returned v ∧ Rows.fnExactExecutedSpec.post enc Tryz.prog Tryz.f4 false true false false W args v W' := by
  have hvar := Laid.var_of_laid hL
  have ho := Laid.ops_of_var hvar
  have hW' := hW
  obtain ⟨p, q, hA0, hV, rfl, hfz, hnd⟩ := hW
  have hA : DataW.TrodAll enc Tryz.prog W 0 (fun _ => true) true Tryz.f4.params.toList args.toList ds p := hA0
  rw [Tryz.params4] at hA hval
  obtain ⟨v0, vs0, d0, ds0, p0, q0, hargs, rfl, rfl, h0, r0⟩ := trodAll_cons hA
  obtain ⟨rfl, rfl, rfl⟩ := trodAll_nil r0
  obtain rfl : args = #[v0] := by cases args; simp_all
  obtain ⟨rfl, rfl⟩ := Laid.open_vars hV hvar
  have lt0 : ∀ x ∈ p0, x.block < W.heap.size := by obtain ⟨m, hm⟩ := h0; exact DataW.trod_lt m _ _ _ hm
  have a0 : Args.Arg 42 W v0 := ⟨H, enc, base, d0, p0, hval 0 42 v0 rfl rfl, h0⟩
  clear hA0
  refine (walk v0 W a0 ho).mono fun e W' ⟨he, bel⟩ => ?_
  subst he
  exact ⟨_, rfl, _, _, _, [], _, _, hW', trodAll_mk1 (shut_bool Tryz.underlying4 _), (trodAll_cons_mk (Below.trod laidOut (by kernel_rfl) (of_decide_eq_true (by kernel_rfl)) h0 bel lt0) trodAll_mk0), Laid.shut_vars (ho.below bel) _, bel.frame _, fun h => by cases h⟩

set_option maxRecDepth 100000 in
theorem laid_met (os : Os) : laidMet Tryz.prog Rows.fnExactExecutedRow.laid ((Laid.laidOn (World.holding Tryz.prog os ⟨#[], #[], []⟩)).forCall (fun _ _ => 0) ⟨#[], #[.agg #[.slice none 0 0, .slice none 0 0, .int .i64 0, .int .i64 0, .int .i64 0, .int .i64 0, .bool false, .bool false, .bool false, .bool false, .bool false, .int .i64 0, .int .i64 0, .int .i64 0, .int .i64 0, .int .i64 0, .int .i64 0, .int .i64 0, .int .i64 0, .bool false, .bool false, .int .i64 0, .int .i64 0, .bool false, .int .i64 0]], []⟩).memory :=
  laidMet_of_run' 8 (by kernel_rfl) (by kernel_rfl)
set_option maxRecDepth 100000 in
theorem reads (os : Os) {H : Type} (enc : TypeId × Value → H) : ∃ places, DataW.whole enc Tryz.prog ((Laid.laidOn (World.holding Tryz.prog os ⟨#[], #[], []⟩)).forCall (fun _ _ => 0) ⟨#[], #[.agg #[.slice none 0 0, .slice none 0 0, .int .i64 0, .int .i64 0, .int .i64 0, .int .i64 0, .bool false, .bool false, .bool false, .bool false, .bool false, .int .i64 0, .int .i64 0, .int .i64 0, .int .i64 0, .int .i64 0, .int .i64 0, .int .i64 0, .int .i64 0, .bool false, .bool false, .int .i64 0, .int .i64 0, .bool false, .int .i64 0]], []⟩).memory Tryz.f4.params.toList Rows.fnExactExecutedSpec.vars false (#[.agg #[.slice none 0 0, .slice none 0 0, .int .i64 0, .int .i64 0, .int .i64 0, .int .i64 0, .bool false, .bool false, .bool false, .bool false, .bool false, .int .i64 0, .int .i64 0, .int .i64 0, .int .i64 0, .int .i64 0, .int .i64 0, .int .i64 0, .int .i64 0, .bool false, .bool false, .int .i64 0, .int .i64 0, .bool false, .int .i64 0]] : Array Value).toList 8 = some ([.agg [.nil, .nil, .lit (.int .i64 0), .lit (.int .i64 0), .lit (.int .i64 0), .lit (.int .i64 0), .lit (.bool false), .lit (.bool false), .lit (.bool false), .lit (.bool false), .lit (.bool false), .lit (.int .i64 0), .lit (.int .i64 0), .lit (.int .i64 0), .agg [.lit (.int .i64 0), .lit (.int .i64 0), .lit (.int .i64 0), .lit (.int .i64 0)], .agg [.lit (.int .i64 0), .lit (.bool false), .lit (.bool false), .lit (.int .i64 0), .lit (.int .i64 0), .lit (.bool false)], .lit (.int .i64 0)]], [Laid.tabData], places) :=
  ⟨MemPlace.row ⟨0, 0, none⟩ 93, by kernel_rfl⟩

set_option maxRecDepth 100000 in
theorem lifted (os : Os) (started : os.Started) (H : Type) (enc : TypeId × Value → H) (F : Stop.Interp) :
    ReturnsInHanded {} Tryz.checked os 4 .any ((OpenSpec.ofChange Rows.fnExactExecutedSpec).preRow enc Tryz.prog Tryz.f4 Rows.fnExactExecutedRow.domain false Rows.fnExactExecutedRow.laid) (((OpenSpec.ofChange Rows.fnExactExecutedSpec).at F).post enc Tryz.prog Tryz.f4 false true false false) := by
  obtain ⟨places, hx⟩ := reads os enc
  refine returnsInHanded_of_row (C := Tryz.checked) (s := OpenSpec.ofChange Rows.fnExactExecutedSpec) own started (by kernel_rfl) Tryz.func4
    (witness_row_at (enc := enc) (C := Tryz.checked) false (Laid.laidOn (World.holding Tryz.prog os ⟨#[], #[], []⟩)) #[.agg #[.slice none 0 0, .slice none 0 0, .int .i64 0, .int .i64 0, .int .i64 0, .int .i64 0, .bool false, .bool false, .bool false, .bool false, .bool false, .int .i64 0, .int .i64 0, .int .i64 0, .int .i64 0, .int .i64 0, .int .i64 0, .int .i64 0, .int .i64 0, .bool false, .bool false, .int .i64 0, .int .i64 0, .bool false, .int .i64 0]] rfl (by kernel_rfl) (by kernel_rfl) (by kernel_rfl)
      (OpenSpec.preRow_of_cond 8 hx (by kernel_rfl) (fun k hk => by cases hk) (by kernel_rfl) (laid_met os))) ?_
  intro W base args ds gs before hval hW _ _ _ hL _ _
  exact contract H enc W base args ds gs before hval hW hL

set_option maxRecDepth 100000 in
theorem said : Rows.FnExactExecutedSaid :=
  OpenClaim.holds_of_cond 4 Tryz.f4 rfl rfl rfl rfl rfl rfl rfl ⟨rfl, rfl, rfl, rfl, rfl⟩ rfl rfl rfl rfl rfl (by kernel_rfl) Tryz.func4 (by kernel_rfl)
    (of_decide_eq_true (by kernel_rfl)) (by unfold Func.isWrapper; first | (rw [if_pos (by decide +kernel)]; kernel_rfl) | (rw [if_neg (by decide +kernel)]; exact ⟨rfl, rfl⟩))
    (fun os started H enc _ F => by rw [OpenClaim.pre_eq_preRow]; exact lifted os started H enc F)

set_option maxRecDepth 100000 in
theorem plain (f : FuncId) (fn : Func) (hf : Tryz.pinned.checked.prog.funcNamed "loop.example/g00741/laws.FnExactExecuted" = some f) (hfn : Tryz.pinned.checked.prog.funcs[f]? = some fn) :
    false = Tryz.pinned.checked.prog.looks [] ∧ ∀ (j : Nat) t, fn.params[j]? = some t → Tryz.pinned.checked.prog.wantsStandIn t = false := by
  obtain rfl : f = 4 := Option.some.inj ((show Tryz.prog.funcNamed "loop.example/g00741/laws.FnExactExecuted" = some 4 by kernel_rfl).symm.trans hf) |>.symm
  obtain rfl : fn = Tryz.f4 := (Option.some.inj (Tryz.func4.symm.trans hfn)).symm
  refine ⟨by kernel_rfl, fun j t ht => ?_⟩
  rw [Tryz.params4] at ht
  have hm := Array.mem_of_getElem? ht
  simp at hm
  rcases hm with rfl
  all_goals first | exact (show Tryz.prog.wantsStandIn 42 = false by kernel_rfl)

theorem proved : Rows.FnExactExecutedCardSaid :=
  Claim7.holds_tied_plain_at .later [] _ _ _ _ said (fun _ h => by cases h) (by kernel_rfl) (fun _ h => by cases h) fnExactExecuted_row_tie rfl ⟨rfl, rfl⟩ (by kernel_rfl) rfl plain (by kernel_rfl)
#print axioms proved
end Go.Proofs.YtmbncgeiaijnpaaGreatDoor.fnExactExecuted
