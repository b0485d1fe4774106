/-
  FnCalledAway: at every code the program's Interrupted and PendingIn answer as the document's model does; nobody is called away who does not want it; who is, comes back by rti where he was; nothing that was there is written.
-/
import Derived.Test.YtocofjimkfffeaaGreatDoorCards
import Derived.Test.YtocofjimkfffeaaGreatDoorTie
import Derived.WalkKit
import Derived.ProofKit
import Derived.OpenShut
import Derived.Test.YtocofjimkfffeaaGreatDoorBase
import Derived.Test.YtocofjimkfffeaaGreatDoorRow
import Derived.Test.YtocofjimkfffeaaGreatDoorNum
import Derived.Test.YtocofjimkfffeaaGreatDoorSlc
import Derived.Test.YtocofjimkfffeaaGreatDoorRom
import Derived.Test.YtocofjimkfffeaaGreatDoorTmr
import Derived.Test.YtocofjimkfffeaaGreatDoorReg
import Derived.Test.YtocofjimkfffeaaGreatDoorSrl
import Derived.Test.YtocofjimkfffeaaGreatDoorSrlI
import Derived.Test.YtocofjimkfffeaaGreatDoorMc
import Derived.Test.YtocofjimkfffeaaGreatDoorMcW
import Derived.Test.YtocofjimkfffeaaGreatDoorMcOk
import Derived.Test.YtocofjimkfffeaaGreatDoorMcRead
import Derived.Test.YtocofjimkfffeaaGreatDoorMcOkI
import Derived.Test.YtocofjimkfffeaaGreatDoorRegs
import Derived.Test.YtocofjimkfffeaaGreatDoorPorts
import Derived.Test.YtocofjimkfffeaaGreatDoorMcReadI
import Derived.Test.YtocofjimkfffeaaGreatDoorMcNew
import Derived.Test.YtocofjimkfffeaaGreatDoorMcCopyI
import Derived.Test.YtocofjimkfffeaaGreatDoorMcWriteI
import Derived.Test.YtocofjimkfffeaaGreatDoorOp
import Derived.Test.YtocofjimkfffeaaGreatDoorCp
import Derived.Test.YtocofjimkfffeaaGreatDoorMcWrite
import Derived.Test.YtocofjimkfffeaaGreatDoorSp
import Derived.Test.YtocofjimkfffeaaGreatDoorIq
import Derived.Test.YtocofjimkfffeaaGreatDoorEx
import Derived.Test.YtocofjimkfffeaaGreatDoorDraw
import Derived.Test.YtocofjimkfffeaaGreatDoorDice
import Derived.Test.YtocofjimkfffeaaGreatDoorDrawRom
import Derived.Test.YtocofjimkfffeaaGreatDoorTmrDraw
import Derived.Test.YtocofjimkfffeaaGreatDoorSrlDraw
import Derived.Test.YtocofjimkfffeaaGreatDoorMcDraw2
import Derived.Test.YtocofjimkfffeaaGreatDoorMcDraw3
import Derived.Test.YtocofjimkfffeaaGreatDoorMcDraw4
import Derived.Test.YtocofjimkfffeaaGreatDoorMcDraw5
import Derived.Test.YtocofjimkfffeaaGreatDoorMcLaw
import Derived.Test.YtocofjimkfffeaaGreatDoorPrg
import Derived.Test.YtocofjimkfffeaaGreatDoorMcMem
import Derived.Test.YtocofjimkfffeaaGreatDoorAwP
import Derived.Test.YtocofjimkfffeaaGreatDoorDe
import Derived.Test.YtocofjimkfffeaaGreatDoorIq3
import Derived.Test.YtocofjimkfffeaaGreatDoorDe4
import Derived.Test.YtocofjimkfffeaaGreatDoorSp3
import Derived.Test.YtocofjimkfffeaaGreatDoorXd
import Derived.Test.YtocofjimkfffeaaGreatDoorIqDraw
import Derived.Test.YtocofjimkfffeaaGreatDoorExLaw
import Derived.Test.YtocofjimkfffeaaGreatDoorAwLaw
import Derived.Test.YtocofjimkfffeaaGreatDoorLaid
import Derived.ShutString
import Derived.ChangeOld
import Derived.Below
import Derived.Deep.DeepHandedRow
namespace Go.Proofs.YtocofjimkfffeaaGreatDoor.fnCalledAway
open Go.ChangeShapes Go.WideShapes Go.ChangeAt Go.RowKit
open Go.ChangeMaps (open_string shut_string)
set_option linter.unusedVariables false

theorem own : ownKnob Tryz.prog.godebug = none := by kernel_rfl
theorem laidOut : laidOutB Tryz.prog = true := by kernel_rfl
def IsRow (k : IntKind) (w : World) (a : Option Addr) (len cap : Nat) (zs : List Int) : Prop :=
  (a = none ∧ len = 0 ∧ cap = 0 ∧ zs = []) ∨
  ∃ x, a = some x ∧ len ≤ cap ∧ cap ≤ maxLen ∧ zs.length = cap ∧ (∀ i, i < zs.length → w.cell? (x.add i) = some (.int k (zs.getD i 0))) ∧ ∀ n ∈ zs, (Lit.int k n).wf = true

theorem walk (a0 : Option Addr) (len0 cap0 : Nat) (z0 : List Int) (w : World) (w0 : IsRow .u8 w a0 len0 cap0 z0) (ho : Opl.OpsAt w) :
    Calls Tryz.prog 4 #[.slice a0 len0 cap0] w fun e w' => e = .returned (.bool true) ∧ Below w.heap.size w w' := by
  exact Mem.calledAway_any a0 len0 cap0 w (Base.code_of w0) ho

set_option maxRecDepth 100000 in
theorem contract (H : Type) (enc : TypeId × Value → H) (W : World) (base : Nat) (args : Array Value) (ds gs : List (DataW H)) (before : List MemPlace)
    (hval : ∀ (j : Nat) t v, Tryz.f4.params[j]? = some t → args[j]? = some v → Value.okWide Tryz.prog W .any base t v)
    (hW : DataW.Whole enc Tryz.prog Tryz.f4.params.toList Rows.fnCalledAwaySpec.vars false W args.toList ds gs before) (hL : laidMetH Tryz.prog Rows.fnCalledAwayRow.laid W) :
    Calls Tryz.prog 4 args W fun e W' => ∃ v, e = .returned v ∧ Rows.fnCalledAwaySpec.post enc Tryz.prog Tryz.f4 false true false false W args v W' := by
  have hvar := Laid.var_of_laid hL
  have ho := Laid.ops_of_var hvar
  have hW' := hW
  obtain ⟨p, q, hA0, hV, rfl, hfz, hnd⟩ := hW
  have hA : DataW.TrodAll enc Tryz.prog W 0 (fun _ => true) true Tryz.f4.params.toList args.toList ds p := hA0
  rw [Tryz.params4] at hA hval
  obtain ⟨v0, vs0, d0, ds0, p0, q0, hargs, rfl, rfl, h0, r0⟩ := trodAll_cons hA
  obtain ⟨rfl, rfl, rfl⟩ := trodAll_nil r0
  obtain rfl : args = #[v0] := by cases args; simp_all
  obtain ⟨rfl, rfl⟩ := Laid.open_vars hV hvar
  obtain ⟨a0, len0, cap0, rfl⟩ := okWide_slice Tryz.underlying22 (hval 0 22 v0 rfl rfl)
  have k0 := h0
  have lt0 : ∀ x ∈ p0, x.block < W.heap.size := by obtain ⟨m, hm⟩ := k0; exact DataW.trod_lt m _ _ _ hm
  obtain ⟨z0, w0⟩ : ∃ zs, IsRow .u8 W a0 len0 cap0 zs := by
    obtain ⟨fuel, hf⟩ := h0
    rcases open_ints Tryz.underlying22 Tryz.underlying5 (by kernel_rfl) hf with ⟨hcs, _⟩ | ⟨x, l, c, zs, hcs, _, hl, hm, hz, _, hcell, hwz⟩
    · simp [Value.cells] at hcs
      obtain ⟨rfl, rfl, rfl⟩ := hcs
      exact ⟨[], .inl ⟨rfl, rfl, rfl, rfl⟩⟩
    · simp [Value.cells] at hcs
      obtain ⟨rfl, rfl, rfl⟩ := hcs
      exact ⟨zs, .inr ⟨_, rfl, hl, hm, by simpa using hz, hcell, hwz⟩⟩
  clear hA0
  refine (walk a0 len0 cap0 z0 W w0 ho).mono fun e W' ⟨he, bel⟩ => ?_
  subst he
  exact ⟨_, rfl, _, _, _, [], _, _, hW', trodAll_mk1 (shut_bool Tryz.underlying4 _), (trodAll_cons_mk (Below.trod laidOut (by kernel_rfl) (of_decide_eq_true (by kernel_rfl)) k0 bel lt0) trodAll_mk0), Laid.shut_vars (ho.below bel) _, bel.frame _, fun h => by cases h⟩

set_option maxRecDepth 100000 in
theorem laid_met (os : Os) : laidMet Tryz.prog Rows.fnCalledAwayRow.laid ((Laid.laidOn (World.holding Tryz.prog os ⟨#[], #[], []⟩)).forCall (fun _ _ => 0) ⟨#[], #[.slice none 0 0], []⟩).memory :=
  laidMet_of_run' 8 (by kernel_rfl) (by kernel_rfl)
set_option maxRecDepth 100000 in
theorem reads (os : Os) {H : Type} (enc : TypeId × Value → H) : ∃ places, DataW.whole enc Tryz.prog ((Laid.laidOn (World.holding Tryz.prog os ⟨#[], #[], []⟩)).forCall (fun _ _ => 0) ⟨#[], #[.slice none 0 0], []⟩).memory Tryz.f4.params.toList Rows.fnCalledAwaySpec.vars false (#[.slice none 0 0] : Array Value).toList 8 = some ([.nil], [Laid.tabData], places) :=
  ⟨MemPlace.row ⟨0, 0, none⟩ 93, by kernel_rfl⟩

set_option maxRecDepth 100000 in
theorem lifted (os : Os) (started : os.Started) (H : Type) (enc : TypeId × Value → H) (F : Stop.Interp) :
    ReturnsInHanded {} Tryz.checked os 4 .any ((OpenSpec.ofChange Rows.fnCalledAwaySpec).preRow enc Tryz.prog Tryz.f4 Rows.fnCalledAwayRow.domain false Rows.fnCalledAwayRow.laid) (((OpenSpec.ofChange Rows.fnCalledAwaySpec).at F).post enc Tryz.prog Tryz.f4 false true false false) := by
  obtain ⟨places, hx⟩ := reads os enc
  refine returnsInHanded_of_row (C := Tryz.checked) (s := OpenSpec.ofChange Rows.fnCalledAwaySpec) own started (by kernel_rfl) Tryz.func4
    (witness_row_at (enc := enc) (C := Tryz.checked) false (Laid.laidOn (World.holding Tryz.prog os ⟨#[], #[], []⟩)) #[.slice none 0 0] rfl (by kernel_rfl) (by kernel_rfl) (by kernel_rfl)
      (OpenSpec.preRow_of_cond 8 hx (by kernel_rfl) (fun k hk => by cases hk) (by kernel_rfl) (laid_met os))) ?_
  intro W base args ds gs before hval hW _ _ _ hL _ _
  exact contract H enc W base args ds gs before hval hW hL

set_option maxRecDepth 100000 in
set_option maxRecDepth 100000 in
theorem said : Rows.FnCalledAwaySaid :=
  OpenClaim.holds_of_cond 4 Tryz.f4 rfl rfl rfl rfl rfl rfl rfl ⟨rfl, rfl, rfl, rfl, rfl⟩ rfl rfl rfl rfl rfl (by kernel_rfl) Tryz.func4 (by kernel_rfl)
    (of_decide_eq_true (by kernel_rfl)) (by unfold Func.isWrapper; first | (rw [if_pos (by decide +kernel)]; kernel_rfl) | (rw [if_neg (by decide +kernel)]; exact ⟨rfl, rfl⟩))
    (fun os started H enc _ F => by rw [OpenClaim.pre_eq_preRow]; exact lifted os started H enc F)

set_option maxRecDepth 100000 in
theorem plain (f : FuncId) (fn : Func) (hf : Tryz.pinned.checked.prog.funcNamed "loop.example/g00741/laws.FnCalledAway" = some f) (hfn : Tryz.pinned.checked.prog.funcs[f]? = some fn) :
    false = Tryz.pinned.checked.prog.looks [] ∧ ∀ (j : Nat) t, fn.params[j]? = some t → Tryz.pinned.checked.prog.wantsStandIn t = false := by
  obtain rfl : f = 4 := Option.some.inj ((show Tryz.prog.funcNamed "loop.example/g00741/laws.FnCalledAway" = some 4 by kernel_rfl).symm.trans hf) |>.symm
  obtain rfl : fn = Tryz.f4 := (Option.some.inj (Tryz.func4.symm.trans hfn)).symm
  refine ⟨by kernel_rfl, fun j t ht => ?_⟩
  rw [Tryz.params4] at ht
  have hm := Array.mem_of_getElem? ht
  simp at hm
  rcases hm with rfl
  all_goals first | exact (show Tryz.prog.wantsStandIn 22 = false by kernel_rfl)

theorem proved : Rows.FnCalledAwayCardSaid :=
  Claim7.holds_tied_plain_at .later [] _ _ _ _ said (fun _ h => by cases h) (by kernel_rfl) (fun _ h => by cases h) fnCalledAway_row_tie rfl ⟨rfl, rfl⟩ (by kernel_rfl) rfl plain (by kernel_rfl)
#print axioms proved
end Go.Proofs.YtocofjimkfffeaaGreatDoor.fnCalledAway
