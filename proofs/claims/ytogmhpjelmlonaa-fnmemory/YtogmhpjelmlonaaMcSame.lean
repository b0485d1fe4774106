/-
  Whether two machines are the same, as the document's model tells it.
-/
import Derived.Test.YtogmhpjelmlonaaMcW
import Derived.Test.YtogmhpjelmlonaaEx
namespace Go.Proofs.Ytogmhpjelmlonaa.Mem
open Go.ChangeShapes Go.WideShapes Go.RowKit Base Num Slc Rw Tmr Srl Rom RomOf Ex
set_option linter.unusedVariables false
set_option linter.unusedSimpArgs false

theorem same_any (v1 v2 : Value) (l1 l2 : List Int) (w : World) (h1 : Sl w v1 l1) (h2 : Sl w v2 l2) :
    Calls Try.prog 75 #[v1, v2] w fun e w' => e = .returned (.bool (decide (l1 = l2))) ∧ ∃ n, w' = w.drewN n := by
  obtain ⟨a1, cap1, rfl, hat1, hlc1, hcm1, hnil1⟩ := h1
  obtain ⟨a2, cap2, rfl, hat2, hlc2, hcm2, hnil2⟩ := h2
  unfold maxLen at hcm1 hcm2
  have H1 : Hid (IntsAt w a1 l1.length l1) := hat1
  have H2 : Hid (IntsAt w a2 l2.length l2) := hat2
  clear hat1 hat2 hnil1 hnil2
  by_cases hll : l1.length = l2.length
  · go_enter Try.func75, Try.ntmps75
    go_wp2
    go_loopw [5] (fun i wr => ∃ k : Nat, k ≤ l1.length ∧ i = .int .i64 k ∧ l1.take k = l2.take k ∧ ∃ n, wr = w.drewN n) (fun i _ => l1.length - (intOf i).toNat)
    case atStart => exact ⟨0, Nat.zero_le _, rfl, rfl, 0, rfl⟩
    case round =>
      obtain ⟨k, hk, rfl, htk, n, rfl⟩ := hrel
      have HT : Hid (l1.take k = l2.take k) := htk
      have HL : Hid (l1.length = l2.length) := hll
      clear htk
      by_cases hlt : k < l1.length
      · rcases H1.out.2 with h0 | ⟨b1, off1, rfl, hbl1, hcell1⟩
        · omega
        · rcases H2.out.2 with h0 | ⟨b2, off2, rfl, hbl2, hcell2⟩
          · omega
          · have hz1 := hcell1 k hlt
            have hz2 := hcell2 k (by omega)
            obtain ⟨z1, hzz1⟩ : ∃ z, z = l1.getD k 0 := ⟨_, rfl⟩
            obtain ⟨z2, hzz2⟩ : ∃ z, z = l2.getD k 0 := ⟨_, rfl⟩
            rw [← hzz1] at hz1
            rw [← hzz2] at hz2
            have hk1 : (k : Int) < (l1.length : Int) := by omega
            have hk2 : (k : Int) < (l2.length : Int) := by omega
            have hk3 : k < l2.length := by omega
            have HZ1 : Hid (z1 = l1.getD k 0) := hzz1
            have HZ2 : Hid (z2 = l2.getD k 0) := hzz2
            clear hzz1 hzz2 hcell1 hcell2 hll
            by_cases hz : z1 = z2
            · have hzt : (z1 == z2) = true := by simp [hz]
              have HZ : Hid (z1 = z2) := hz
              clear hz
              go_wp2
              go_quiet (fail)
              go_wp2
              go_roundw
              case rel => exact ⟨k + 1, by omega, by go_num, take_both HT.out hlt hk3 (by rw [← HZ1.out, ← HZ2.out]; exact HZ.out), _, rfl⟩
              case measure => simp [intOf]; omega
            · have hzf : (z1 == z2) = false := by simp [hz]
              have HD : Hid (decide (l1 = l2) = false) := by show decide (l1 = l2) = false; simp; intro e; exact hz (by rw [HZ1.out, HZ2.out, e])
              clear hz
              go_wp2
              go_quiet (fail)
              go_wp2
              go_ret
              exact ⟨ret_bool HD.out.symm, _, World.drewN_drewN _ _ _⟩
      · clear hll
        go_wp2
        go_ret
        have e1 : l1.take k = l1 := List.take_of_length_le (by omega)
        have e2 : l2.take k = l2 := List.take_of_length_le (by have := HL.out; omega)
        have e3 := HT.out
        rw [e1, e2] at e3
        exact ⟨ret_bool (by simp [e3]), _, rfl⟩
  · have HD : Hid (decide (l1 = l2) = false) := by show decide (l1 = l2) = false; simp; intro e; exact hll (by rw [e])
    have hne : ((l1.length : Int) == (l2.length : Int)) = false := by simp; omega
    go_enter Try.func75, Try.ntmps75
    go_wp2
    go_ret
    exact ⟨ret_bool HD.out.symm, 0, rfl⟩

set_option maxRecDepth 20000 in
set_option maxHeartbeats 2000000 in
theorem sameMachine_same (vr va ur ua : Value) (m : Mc) (w : World) (h1 : Sl w vr m.rom) (h2 : Sl w va m.ram) (h3 : Sl w ur m.rom) (h4 : Sl w ua m.ram) :
    Calls Try.prog 42 #[m.val vr va, m.val ur ua] w fun e w' => e = .returned (.bool true) ∧ Below w.heap.size w w' := by
  obtain ⟨vv, hvv⟩ : ∃ vv, vv = m.val vr va := ⟨_, rfl⟩
  obtain ⟨uu, huu⟩ : ∃ uu, uu = m.val ur ua := ⟨_, rfl⟩
  rw [← hvv, ← huu]
  go_enter Try.func42, Try.ntmps42
  go_wp2_with (first
    | (refine box_m rfl rfl hvv ?_; intro w0 r0 hB0)
    | (refine box_m rfl rfl huu ?_; intro w1 q1 hB1; have r1 := r0.below hB1; have hB2 := hB0.trans (hB1.mono hB0.size); have a0 := (cw r1).vr; have b0 := (cw q1).vr))
  go_at_call 75
  refine (same_any vr ur m.rom m.rom _ (h1.below hB2) (h3.below hB2)).mono ?_
  rintro e w2 ⟨rfl, n2, hw2⟩
  have hb2 := drew_below hw2
  have hB3 := hB2.trans (hb2.mono hB2.size)
  have r2 := r1.below hb2
  have q2 := q1.below hb2
  clear hw2 a0 b0
  have a0 := (cw r2).va
  have b0 := (cw q2).va
  rw [decide_eq_true rfl]
  go_wp2_with fail
  go_at_call 75
  refine (same_any va ua m.ram m.ram _ (h2.below hB3) (h4.below hB3)).mono ?_
  rintro e w3 ⟨rfl, n3, hw3⟩
  have hb3 := drew_below hw3
  have hB4 := hB3.trans (hb3.mono hB3.size)
  have r3 := r2.below hb3
  have q3 := q2.below hb3
  clear hw3 a0 b0 r0 r1 r2 q1 q2
  rw [decide_eq_true rfl]
  have a2 := (cw r3).a
  have a3 := (cw r3).b
  have a4 := (cw r3).pc
  have a5 := (cw r3).sp
  have a6 := (cw r3).z
  have a7 := (cw r3).c
  have a8 := (cw r3).e
  have a9 := (cw r3).h
  have a10 := (cw r3).s
  have a11 := (cw r3).fl
  have a12 := (cw r3).ms
  have a13 := (cw r3).ky
  have a14 := (cw r3).tc
  have a15 := (cw r3).tv
  have a16 := (cw r3).ts
  have a17 := (cw r3).tm
  have a18 := (cw r3).pd
  have a19 := (cw r3).pb
  have a20 := (cw r3).pl
  have a21 := (cw r3).pn
  have a22 := (cw r3).px
  have a23 := (cw r3).pt
  have a24 := (cw r3).k
  have b2 := (cw q3).a
  have b3 := (cw q3).b
  have b4 := (cw q3).pc
  have b5 := (cw q3).sp
  have b6 := (cw q3).z
  have b7 := (cw q3).c
  have b8 := (cw q3).e
  have b9 := (cw q3).h
  have b10 := (cw q3).s
  have b11 := (cw q3).fl
  have b12 := (cw q3).ms
  have b13 := (cw q3).ky
  have b14 := (cw q3).tc
  have b15 := (cw q3).tv
  have b16 := (cw q3).ts
  have b17 := (cw q3).tm
  have b18 := (cw q3).pd
  have b19 := (cw q3).pb
  have b20 := (cw q3).pl
  have b21 := (cw q3).pn
  have b22 := (cw q3).px
  have b23 := (cw q3).pt
  have b24 := (cw q3).k
  go_wp2_with fail
  go_ret
  exact ⟨rfl, hB4⟩
theorem likeMachine_same (vr va ur ua : Value) (m : Mc) (w : World) (h1 : Sl w vr m.rom) (h2 : Sl w va m.ram) (h3 : Sl w ur m.rom) (h4 : Sl w ua m.ram) :
    Calls Try.prog 13 #[m.val vr va, m.val ur ua] w fun e w' => e = .returned (.bool true) ∧ Below w.heap.size w w' := by
  obtain ⟨vv, hvv⟩ : ∃ vv, vv = m.val vr va := ⟨_, rfl⟩
  obtain ⟨uu, huu⟩ : ∃ uu, uu = m.val ur ua := ⟨_, rfl⟩
  rw [← hvv, ← huu]
  go_enter Try.func13, Try.ntmps13
  go_wp2_with (first
    | (refine box_m rfl rfl hvv ?_; intro w0 r0 hB0)
    | (refine box_m rfl rfl huu ?_; intro w1 q1 hB1; have r1 := r0.below hB1; have hB2 := hB0.trans (hB1.mono hB0.size))
    | (refine ld_mc rfl rfl rfl r1 ?_)
    | (refine ld_mc rfl rfl rfl q1 ?_)
    | (go_at_call 42; refine (sameMachine_same vr va ur ua m _ (h1.below hB2) (h2.below hB2) (h3.below hB2) (h4.below hB2)).mono ?_; rintro e w2 ⟨rfl, hb2⟩; have hB3 := hB2.trans (hb2.mono hB2.size)))
  go_ret
  exact ⟨rfl, hB3⟩
end Go.Proofs.Ytogmhpjelmlonaa.Mem
