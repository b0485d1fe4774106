/-
  FnExactSerialStart: for every argument the program's SerialStart answers as the document's model does.
-/
import Derived.Test.YtdcmjajipkpbnaaRows
import Derived.WalkKit
import Derived.ProofKit
import Derived.OpenShut
import Derived.Test.YtdcmjajipkpbnaaBase
import Derived.Test.YtdcmjajipkpbnaaNum
import Derived.Test.YtdcmjajipkpbnaaTmr
import Derived.Test.YtdcmjajipkpbnaaSlc
import Derived.Test.YtdcmjajipkpbnaaRow
import Derived.Test.YtdcmjajipkpbnaaReg
import Derived.Test.YtdcmjajipkpbnaaSrl
import Derived.Test.YtdcmjajipkpbnaaSrl2
import Derived.Test.YtdcmjajipkpbnaaSrl3
import Derived.Test.YtdcmjajipkpbnaaSrl4
import Derived.Test.YtdcmjajipkpbnaaRow2
import Derived.Test.YtdcmjajipkpbnaaSrlI
import Derived.Test.YtdcmjajipkpbnaaSrlI2
import Derived.Test.YtdcmjajipkpbnaaSrlI3
import Derived.Test.YtdcmjajipkpbnaaSrlI4
import Derived.Test.YtdcmjajipkpbnaaSrlI5
import Derived.Test.YtdcmjajipkpbnaaArg
import Derived.Test.YtdcmjajipkpbnaaArgSr
import Derived.ShutString
import Derived.ChangeOld
import Derived.Below
namespace Go.Proofs.Ytdcmjajipkpbnaa.fnExactSerialStart
open Go.ChangeShapes Go.WideShapes Go.ChangeAt Go.RowKit
open Go.ChangeMaps (open_string shut_string)
set_option linter.unusedVariables false

theorem own : ownKnob Try.prog.godebug = none := by kernel_rfl
theorem laidOut : laidOutB Try.prog = true := by kernel_rfl

theorem walk (v0 v1 v2 : Value) (w : World) (h0 : Args.Arg 43 w v0) (h1 : Args.Arg 4 w v1) (h2 : Args.Arg 2 w v2) :
    Calls Try.prog 6 #[v0, v1, v2] w fun e w' => e = .returned (.bool true) ∧ Below w.heap.size w w' := by
  obtain ⟨s, rfl⟩ := h0.serial
  obtain ⟨q, rfl⟩ := h1.bool
  obtain ⟨n, rfl, hn2⟩ := h2.int
  clear h0 h1 h2 hn2
  rw [Srl.Sr.eta]
  go_enter Try.func6, Try.ntmps6
  go_wp2_with fail
  go_at_call 27
  refine (Srl.toSerial_any s _).mono ?_
  rintro e w1 ⟨rfl, hb1⟩
  have r1 := (Rw.Row.new w #[.int .i64 s.d, .bool s.b, .bool s.l, .int .i64 s.n, .int .i64 s.x, .bool s.t] 43).below hb1
  have hB := ((Below.refl _ w).alloc (Nat.le_refl _) _).trans (hb1.mono (by simp))
  clear hb1
  go_wp2_with fail
  go_at_call 25
  refine (Srl.serialStart_spec s q n _).mono ?_
  rintro e w2 ⟨rfl, hb2⟩
  replace r1 := r1.below hb2
  replace hB := hB.trans (hb2.mono hB.size)
  clear hb2
  have c1 := r1.cell
  have l1 := r1.lt
  generalize hu : s.start q n = u
  rw [Srl.Sr.eta]
  have HU : Hid (s.start q n = u) := hu
  clear hu
  go_wp2_with fail
  go_at_call 27
  refine (Srl.toSerial_any s _).mono ?_
  rintro e w3 ⟨rfl, hb3⟩
  have r5 := (Rw.Row.new w2 #[.int .i64 u.d, .bool u.b, .bool u.l, .int .i64 u.n, .int .i64 u.x, .bool u.t] 29).below hb3
  replace hB := (hB.alloc hB.size _).trans (hb3.mono (by simp; omega))
  clear hb3 c1 r1 l1
  go_wp2_with fail
  go_at_call 13
  refine (Srl.serialStart_impl s q n _).mono ?_
  rw [HU.out]
  rintro e w4 ⟨rfl, hb4⟩
  replace r5 := r5.below hb4
  replace hB := hB.trans (hb4.mono hB.size)
  clear hb4
  have c5 := r5.cell
  have l5 := r5.lt
  rw [Srl.Sr.eta]
  go_wp2_with fail
  go_at_call 28
  refine (Srl.eqSerial_same u _).mono ?_
  rintro e w5 ⟨rfl, hb5⟩
  replace hB := (hB.alloc hB.size _).trans (hb5.mono (by have := hB.size; simp; omega))
  go_wp2
  go_ret
  exact ⟨rfl, hB⟩

set_option maxRecDepth 100000 in
theorem lifted (os : Os) (started : os.Started) (H : Type) (enc : TypeId × Value → H) :
    ReturnsInHanded {} Try.checked os 6 .any (Rows.fnExactSerialStartSpec.pre6 enc Try.prog Try.f6 Rows.fnExactSerialStartRow.domain false) (Rows.fnExactSerialStartSpec.post enc Try.prog Try.f6 false true false false) := by
  refine returnsInHanded_of_change (C := Try.checked) own started (by kernel_rfl) Try.func6
    (ChangeSpec.witness6 (enc := enc) (C := Try.checked) false ⟨#[], #[.agg #[.int .i64 0, .bool false, .bool false, .int .i64 0, .int .i64 0, .bool false], .bool false, .int .i64 0], []⟩ 8 (by kernel_rfl) (by kernel_rfl) (by kernel_rfl) (by kernel_rfl)) ?_
  intro W base args ds gs before hval0 hW hcnd _
  have hval : ∀ (j : Nat) t v, Try.f6.params[j]? = some t → args[j]? = some v → Value.okWide Try.prog W .any base t v := hval0
  have hW' := hW
  obtain ⟨p, q, hA0, hV, rfl, hfz, hnd⟩ := hW
  have hA : DataW.TrodAll enc Try.prog W 0 (fun _ => true) true Try.f6.params.toList args.toList ds p := hA0
  rw [Try.params6] at hA hval
  obtain ⟨v0, vs0, d0, ds0, p0, q0, hargs, rfl, rfl, h0, r0⟩ := trodAll_cons hA
  obtain ⟨v1, vs1, d1, ds1, p1, q1, rfl, rfl, rfl, h1, r1⟩ := trodAll_cons r0
  obtain ⟨v2, vs2, d2, ds2, p2, q2, rfl, rfl, rfl, h2, r2⟩ := trodAll_cons r1
  obtain ⟨rfl, rfl, rfl⟩ := trodAll_nil r2
  obtain rfl : args = #[v0, v1, v2] := by cases args; simp_all
  obtain ⟨rfl, rfl⟩ := trodVars_none hV
  have lt0 : ∀ x ∈ p0, x.block < W.heap.size := by obtain ⟨m, hm⟩ := h0; exact DataW.trod_lt m _ _ _ hm
  have a0 : Args.Arg 43 W v0 := ⟨H, enc, base, d0, p0, hval 0 43 v0 rfl rfl, h0⟩
  have lt1 : ∀ x ∈ p1, x.block < W.heap.size := by obtain ⟨m, hm⟩ := h1; exact DataW.trod_lt m _ _ _ hm
  have a1 : Args.Arg 4 W v1 := ⟨H, enc, base, d1, p1, hval 1 4 v1 rfl rfl, h1⟩
  have lt2 : ∀ x ∈ p2, x.block < W.heap.size := by obtain ⟨m, hm⟩ := h2; exact DataW.trod_lt m _ _ _ hm
  have a2 : Args.Arg 2 W v2 := ⟨H, enc, base, d2, p2, hval 2 2 v2 rfl rfl, h2⟩
  clear hA0 hval0
  refine (walk v0 v1 v2 W a0 a1 a2).mono fun e W' ⟨he, bel⟩ => ?_
  subst he
  exact ⟨_, rfl, _, _, _, [], _, [], hW', trodAll_mk1 (shut_bool Try.underlying4 _), (trodAll_cons_mk (Below.trod laidOut (by kernel_rfl) (of_decide_eq_true (by kernel_rfl)) h0 bel lt0) (trodAll_cons_mk (Below.trod laidOut (by kernel_rfl) (of_decide_eq_true (by kernel_rfl)) h1 bel lt1) (trodAll_cons_mk (Below.trod laidOut (by kernel_rfl) (of_decide_eq_true (by kernel_rfl)) h2 bel lt2) trodAll_mk0))), rfl, bel.frame _, fun h => by cases h⟩

theorem over : Rows.fnExactSerialStartRow.holds Try.pinned (OpenSpec.ofChange Rows.fnExactSerialStartSpec) :=
  OpenClaim.holds_of_wide 6 Try.f6 rfl rfl rfl rfl rfl rfl rfl ⟨rfl, rfl, rfl, rfl, rfl⟩ rfl rfl rfl rfl rfl (by kernel_rfl) Try.func6 (by kernel_rfl)
    (of_decide_eq_true (by kernel_rfl)) (by unfold Func.isWrapper; first | (rw [if_pos (by decide +kernel)]; kernel_rfl) | (rw [if_neg (by decide +kernel)]; exact ⟨rfl, rfl⟩))
    (fun os started H enc _ => lifted os started H enc)

theorem proved : Rows.FnExactSerialStartSaid := over
#print axioms proved
end Go.Proofs.Ytdcmjajipkpbnaa.fnExactSerialStart
