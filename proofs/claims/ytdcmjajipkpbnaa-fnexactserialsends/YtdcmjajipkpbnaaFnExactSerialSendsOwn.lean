/-
  FnExactSerialSends: for every argument the program's SerialSends answers as the document's model does.
-/
import Derived.Test.YtdcmjajipkpbnaaRows
import Derived.WalkKit
import Derived.ProofKit
import Derived.OpenShut
import Derived.Test.YtdcmjajipkpbnaaBase
import Derived.Test.YtdcmjajipkpbnaaNum
import Derived.Test.YtdcmjajipkpbnaaTmr
import Derived.Test.YtdcmjajipkpbnaaSlc
import Derived.Test.YtdcmjajipkpbnaaRow
import Derived.Test.YtdcmjajipkpbnaaReg
import Derived.Test.YtdcmjajipkpbnaaSrl
import Derived.Test.YtdcmjajipkpbnaaSrl2
import Derived.Test.YtdcmjajipkpbnaaSrl3
import Derived.Test.YtdcmjajipkpbnaaSrl4
import Derived.Test.YtdcmjajipkpbnaaRow2
import Derived.Test.YtdcmjajipkpbnaaSrlI
import Derived.Test.YtdcmjajipkpbnaaSrlI2
import Derived.Test.YtdcmjajipkpbnaaSrlI3
import Derived.Test.YtdcmjajipkpbnaaSrlI4
import Derived.Test.YtdcmjajipkpbnaaSrlI5
import Derived.Test.YtdcmjajipkpbnaaArg
import Derived.Test.YtdcmjajipkpbnaaArgSr
import Derived.ShutString
import Derived.ChangeOld
import Derived.Below
namespace Go.Proofs.Ytdcmjajipkpbnaa.fnExactSerialSends
open Go.ChangeShapes Go.WideShapes Go.ChangeAt Go.RowKit
open Go.ChangeMaps (open_string shut_string)
set_option linter.unusedVariables false

theorem own : ownKnob Try.prog.godebug = none := by kernel_rfl
theorem laidOut : laidOutB Try.prog = true := by kernel_rfl

theorem walk (v0 v1 : Value) (w : World) (h0 : Args.Arg 43 w v0) (h1 : Args.Arg 2 w v1) :
    Calls Try.prog 7 #[v0, v1] w fun e w' => e = .returned (.bool true) ∧ Below w.heap.size w w' := by
  obtain ⟨s, rfl⟩ := h0.serial
  obtain ⟨n, rfl, hn1⟩ := h1.int
  clear h0 h1 hn1
  rw [Srl.Sr.eta]
  go_enter Try.func7, Try.ntmps7
  go_wp2_with fail
  go_at_call 27
  refine (Srl.toSerial_any s _).mono ?_
  rintro e w1 ⟨rfl, hb1⟩
  have r1 := (Rw.Row.new w #[.int .i64 s.d, .bool s.b, .bool s.l, .int .i64 s.n, .int .i64 s.x, .bool s.t] 43).below hb1
  have hB := ((Below.refl _ w).alloc (Nat.le_refl _) _).trans (hb1.mono (by simp))
  clear hb1
  go_wp2_with fail
  go_at_call 22
  refine (Srl.serialSends_spec s n _).mono ?_
  rintro e w2 ⟨rfl, hb2⟩
  replace r1 := r1.below hb2
  replace hB := hB.trans (hb2.mono hB.size)
  clear hb2
  have c1 := r1.cell
  have l1 := r1.lt
  generalize hu : s.send n = u
  rw [Srl.Sr.eta]
  have HU : Hid (s.send n = u) := hu
  clear hu
  go_wp2_with fail
  go_at_call 27
  refine (Srl.toSerial_any s _).mono ?_
  rintro e w3 ⟨rfl, hb3⟩
  have r5 := (Rw.Row.new w2 #[.int .i64 u.1.d, .bool u.1.b, .bool u.1.l, .int .i64 u.1.n, .int .i64 u.1.x, .bool u.1.t] 29).below hb3
  replace hB := (hB.alloc hB.size _).trans (hb3.mono (by simp; omega))
  clear hb3 c1 r1 l1
  go_wp2_with fail
  go_at_call 14
  refine (Srl.serialSends_impl s n _).mono ?_
  rw [HU.out]
  rintro e w4 ⟨rfl, hb4⟩
  replace r5 := r5.below hb4
  replace hB := hB.trans (hb4.mono hB.size)
  clear hb4
  have c5 := r5.cell
  have l5 := r5.lt
  rw [Srl.Sr.eta]
  go_wp2_with fail
  go_at_call 28
  refine (Srl.eqSerial_same u.1 _).mono ?_
  rintro e w5 ⟨rfl, hb5⟩
  replace hB := (hB.alloc hB.size _).trans (hb5.mono (by have := hB.size; simp; omega))
  go_wp2
  go_ret
  exact ⟨rfl, hB⟩

set_option maxRecDepth 100000 in
theorem lifted (os : Os) (started : os.Started) (H : Type) (enc : TypeId × Value → H) :
    ReturnsInHanded {} Try.checked os 7 .any (Rows.fnExactSerialSendsSpec.pre6 enc Try.prog Try.f7 Rows.fnExactSerialSendsRow.domain false) (Rows.fnExactSerialSendsSpec.post enc Try.prog Try.f7 false true false false) := by
  refine returnsInHanded_of_change (C := Try.checked) own started (by kernel_rfl) Try.func7
    (ChangeSpec.witness6 (enc := enc) (C := Try.checked) false ⟨#[], #[.agg #[.int .i64 0, .bool false, .bool false, .int .i64 0, .int .i64 0, .bool false], .int .i64 0], []⟩ 8 (by kernel_rfl) (by kernel_rfl) (by kernel_rfl) (by kernel_rfl)) ?_
  intro W base args ds gs before hval0 hW hcnd _
  have hval : ∀ (j : Nat) t v, Try.f7.params[j]? = some t → args[j]? = some v → Value.okWide Try.prog W .any base t v := hval0
  have hW' := hW
  obtain ⟨p, q, hA0, hV, rfl, hfz, hnd⟩ := hW
  have hA : DataW.TrodAll enc Try.prog W 0 (fun _ => true) true Try.f7.params.toList args.toList ds p := hA0
  rw [Try.params7] at hA hval
  obtain ⟨v0, vs0, d0, ds0, p0, q0, hargs, rfl, rfl, h0, r0⟩ := trodAll_cons hA
  obtain ⟨v1, vs1, d1, ds1, p1, q1, rfl, rfl, rfl, h1, r1⟩ := trodAll_cons r0
  obtain ⟨rfl, rfl, rfl⟩ := trodAll_nil r1
  obtain rfl : args = #[v0, v1] := by cases args; simp_all
  obtain ⟨rfl, rfl⟩ := trodVars_none hV
  have lt0 : ∀ x ∈ p0, x.block < W.heap.size := by obtain ⟨m, hm⟩ := h0; exact DataW.trod_lt m _ _ _ hm
  have a0 : Args.Arg 43 W v0 := ⟨H, enc, base, d0, p0, hval 0 43 v0 rfl rfl, h0⟩
  have lt1 : ∀ x ∈ p1, x.block < W.heap.size := by obtain ⟨m, hm⟩ := h1; exact DataW.trod_lt m _ _ _ hm
  have a1 : Args.Arg 2 W v1 := ⟨H, enc, base, d1, p1, hval 1 2 v1 rfl rfl, h1⟩
  clear hA0 hval0
  refine (walk v0 v1 W a0 a1).mono fun e W' ⟨he, bel⟩ => ?_
  subst he
  exact ⟨_, rfl, _, _, _, [], _, [], hW', trodAll_mk1 (shut_bool Try.underlying4 _), (trodAll_cons_mk (Below.trod laidOut (by kernel_rfl) (of_decide_eq_true (by kernel_rfl)) h0 bel lt0) (trodAll_cons_mk (Below.trod laidOut (by kernel_rfl) (of_decide_eq_true (by kernel_rfl)) h1 bel lt1) trodAll_mk0)), rfl, bel.frame _, fun h => by cases h⟩

theorem over : Rows.fnExactSerialSendsRow.holds Try.pinned (OpenSpec.ofChange Rows.fnExactSerialSendsSpec) :=
  OpenClaim.holds_of_wide 7 Try.f7 rfl rfl rfl rfl rfl rfl rfl ⟨rfl, rfl, rfl, rfl, rfl⟩ rfl rfl rfl rfl rfl (by kernel_rfl) Try.func7 (by kernel_rfl)
    (of_decide_eq_true (by kernel_rfl)) (by unfold Func.isWrapper; first | (rw [if_pos (by decide +kernel)]; kernel_rfl) | (rw [if_neg (by decide +kernel)]; exact ⟨rfl, rfl⟩))
    (fun os started H enc _ => lifted os started H enc)

theorem proved : Rows.FnExactSerialSendsSaid := over
#print axioms proved
end Go.Proofs.Ytdcmjajipkpbnaa.fnExactSerialSends
