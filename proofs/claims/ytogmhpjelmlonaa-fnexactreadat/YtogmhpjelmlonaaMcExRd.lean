/-
  The exact laws of chapter 6: ReadAt.
-/
import Derived.Test.YtogmhpjelmlonaaMcEx
import Derived.Test.YtogmhpjelmlonaaMcRead
import Derived.Test.YtogmhpjelmlonaaMcReadI
namespace Go.Proofs.Ytogmhpjelmlonaa.Mem
open Go.ChangeShapes Go.WideShapes Go.RowKit Base Num Slc Rw Tmr Srl Rom RomOf Ex Reg
set_option linter.unusedVariables false
set_option linter.unusedSimpArgs false

set_option maxRecDepth 20000 in
set_option maxHeartbeats 2000000 in
theorem exReadAt (m : Mc) (vr va : Value) (q : Int) (w : World) (hr : Sl w vr m.rom) (ha : Sl w va m.ram) :
    Calls Try.prog 6 #[m.val vr va, .int .i64 q] w fun e w' => e = .returned (.bool true) ∧ Below w.heap.size w w' := by
  by_cases hsm : m.rom.length + m.ram.length ≤ 1048576
  · have hz : ¬ szOf m < 0 := by
      unfold szOf; split; omega; split <;> omega
    have hl1 : m.rom.length ≤ 4000000 := by omega
    have hl2 : m.ram.length ≤ 4000000 := by omega
    obtain ⟨vv, hvv⟩ : ∃ vv, vv = m.val vr va := ⟨_, rfl⟩
    rw [← hvv]
    go_enter Try.func6, Try.ntmps6
    go_wp2_with (first
      | (refine box_l rfl rfl hvv ?_; intro w0 r0 hB0)
      | (refine ld_l rfl rfl rfl r0 ?_))
    go_at_call 24
    refine (szMachine_any vr va m _ (hr.below hB0) (ha.below hB0)).mono ?_
    rintro e w1 ⟨rfl, hb1⟩
    have r1 := r0.below hb1
    have hB1 := hB0.trans (hb1.mono hB0.size)
    generalize szOf m = z at hz ⊢
    clear r0
    go_wp2_with (first
      | (refine ld_l rfl rfl rfl r1 ?_))
    go_at_call 25
    refine (toMachine_any vr va m _ (hr.below hB1) (ha.below hB1) hl1 hl2).mono ?_
    rintro e w2 ⟨v2, rfl, ⟨tr, tt, rfl, ht1, ht2, ht3⟩, hb2⟩
    have r2 := r1.below hb2
    have hB2 := hB1.trans (hb2.mono hB1.size)
    clear r1
    go_wp2_with fail
    go_at_call 16
    refine (readAt_spec _ m q _ ⟨tr, tt, rfl, ht1.sl, ht2.sl⟩).mono ?_
    rintro e w3 ⟨rfl, hb3⟩
    have r3 := r2.below hb3
    have hB3 := hB2.trans (hb3.mono hB2.size)
    clear r2 ht1 ht2 ht3
    go_wp2_with (first
      | (refine ld_l rfl rfl rfl r3 ?_))
    go_at_call 25
    refine (toMachine_any vr va m _ (hr.below hB3) (ha.below hB3) hl1 hl2).mono ?_
    rintro e w4 ⟨v4, rfl, ⟨xr, xa, rfl, hx1, hx2, hx3⟩, hb4⟩
    have r4 := r3.below hb4
    have hB4 := hB3.trans (hb4.mono hB3.size)
    clear r3
    go_wp2_with (first
      | (refine al_mc rfl rfl ?_; intro w5 z5 hB5; have r5 := r4.below hB5; have x5 := hx1.below hB5; have y5 := hx2.below hB5; have hC5 := hB4.trans (hB5.mono hB4.size))
      | (refine st_mc rfl rfl rfl rfl z5 (one_own hx1) (one_own hx2) ?_; intro w6 z6 o6 s6; have r6 := r5.onto o6 (by have := r4.lt; omega); have x6 := x5.onto o6 (fun e => by have := hx1.lt _ e; omega); have y6 := y5.onto o6 (fun e => by have := hx2.lt _ e; omega); have hB6 := below_onto hC5 o6 (by have := hB4.size; omega))
      | (refine ld_mc rfl rfl rfl z6 ?_))
    go_at_call 15
    refine (readAt_impl _ m q _ ⟨xr, xa, rfl, x6.sl, y6.sl⟩).mono ?_
    rintro e w7 ⟨rfl, hb7⟩
    have hB7 := hB6.trans (hb7.mono hB6.size)
    have hG : Ge w m w.heap.size w4.heap.size xr xa vr va w7 := ⟨r6.below hb7, z6.below hb7, hr.below hB7, ha.below hB7, x6.sl.below hb7, y6.sl.below hb7, hB7⟩
    clear r4 r5 r6 z5 z6 x5 x6 y5 y6 hx1 hx2 hx3 hB0 hB1 hB2 hB3 hB4 hC5 hB6 hB7
    go_wp2_with fail
    refine region_gen (by kernel_rfl) (by kernel_rfl) (fun W => Ge w m w.heap.size w4.heap.size xr xa vr va W) (Te 26 m xr xa vr va) (fun _ W W' => Below W.heap.size W W') (mono_e (by kernel_rfl)) hG.drew ?step ?done
    case step =>
      intro L ix o A W hi hI hL hd
      have hin : ix < 5 := by
        by_cases hl : ix < 5
        · exact hl
        · simp [hl] at hi
      have hsz : A.tmps.size = 31 := hI.size
      have hg := hI.g
      rcases ix with _ | ix
      · obtain rfl := (Option.some.inj hi).symm
        have e : A.eval (.tmp 7) = .pointer (some ⟨w4.heap.size, 0, none⟩) := hI.old 7 (by kernel_rfl)
        exact at_op rfl rfl (wp_load_row _ _ rfl _ e _ _ _ _ hg.x.row Try.underlying30 rfl info_mc ⟨_, rfl, getD_put_same _ _ _ (by omega), hg, Below.refl _ _⟩)
      rcases ix with _ | ix
      · obtain rfl := (Option.some.inj hi).symm
        have e : A.eval (.tmp 2) = .pointer (some ⟨w.heap.size, 0, none⟩) := hI.old 2 (by kernel_rfl)
        exact at_op rfl rfl (wp_load_row _ _ rfl _ e _ _ _ _ hg.arg.row Try.underlying52 rfl info_l ⟨_, rfl, getD_put_same _ _ _ (by omega), hg, Below.refl _ _⟩)
      rcases ix with _ | ix
      · obtain rfl := (Option.some.inj hi).symm
        have e0 : A.eval (.tmp 27) = m.val vr va := hI.get hd 1 rfl (by kernel_rfl)
        refine at_op rfl rfl (call_op rfl Try.func25 (by kernel_rfl) (by kernel_rfl) ?_)
        simp only [List.map_cons, List.map_nil, e0]
        refine (toMachine_any vr va m W hg.ar hg.aa hl1 hl2).mono ?_
        rintro e w5 ⟨v5, rfl, ho5, hb5⟩
        refine ⟨_, rfl, _, rfl, ?_, hg.below hb5, hb5⟩
        have e' : at_ (A.put (some 28) v5) 28 = v5 := getD_put_same _ _ _ (by omega)
        show MSl w5 (at_ (A.put (some 28) v5) 28) m
        rw [e']; exact ho5.sl
      rcases ix with _ | ix
      · obtain rfl := (Option.some.inj hi).symm
        have e0 : A.eval (.tmp 26) = m.val xr xa := hI.get hd 0 rfl (by kernel_rfl)
        obtain ⟨ur, ua, e1, hu1, hu2⟩ : MSl W (at_ A 28) m := hI.get hd 2 rfl (by kernel_rfl)
        have e1' : A.eval (.tmp 28) = m.val ur ua := e1
        refine at_op rfl rfl (call_op rfl Try.func26 (by kernel_rfl) (by kernel_rfl) ?_)
        simp only [List.map_cons, List.map_nil, e0, e1']
        refine (eqMachine_same xr xa ur ua m W hg.xr hg.xa hu1 hu2).mono ?_
        rintro e w5 ⟨rfl, hb5⟩
        exact ⟨_, rfl, _, rfl, getD_put_same _ _ _ (by omega), hg.below hb5, hb5⟩
      rcases ix with _ | ix
      · obtain rfl := (Option.some.inj hi).symm
        have e : A.eval (.tmp 29) = .bool true := hI.get hd 3 rfl (by kernel_rfl)
        refine at_op rfl rfl (val_op (v := .bool false) ?_ ⟨_, rfl, getD_put_same _ _ _ (by omega), hg, Below.refl _ _⟩)
        unfold execOp
        simp only [List.getElem_toArray, List.getElem_cons_zero, List.getElem_cons_succ, e]
        simp [go_sem]
      omega
    case done =>
      intro A W hI
      have hg := hI.g
      have es : A.tmps.getD 30 undef = .bool false := hI.told 4 _ rfl rfl
      have e7 : A.tmps.getD 7 undef = .pointer (some ⟨w4.heap.size, 0, none⟩) := hI.old 7 (by kernel_rfl)
      have e2 : A.tmps.getD 2 undef = .pointer (some ⟨w.heap.size, 0, none⟩) := hI.old 2 (by kernel_rfl)
      have hA := frame_lit A 31 hI.size
      have hde : A.defers = [] := hI.defers
      rw [hde, show List.range 31 = [0, 1, 2, 3, 4, 5, 6, 7, 8, 9, 10, 11, 12, 13, 14, 15, 16, 17, 18, 19, 20, 21, 22, 23, 24, 25, 26, 27, 28, 29, 30] from rfl] at hA
      simp only [List.map_cons, List.map_nil, es, e7, e2] at hA
      rw [hA]
      clear hA es e7 e2 hI hde
      go_wp2
      go_ret
      exact ⟨rfl, hg.bel⟩
  · have hz : szOf m = -1 := by
      unfold szOf; split; rfl; split; rfl; omega
    obtain ⟨vv, hvv⟩ : ∃ vv, vv = m.val vr va := ⟨_, rfl⟩
    rw [← hvv]
    go_enter Try.func6, Try.ntmps6
    go_wp2_with (first
      | (refine box_l rfl rfl hvv ?_; intro w0 r0 hB0)
      | (refine ld_l rfl rfl rfl r0 ?_)
      | (go_at_call 24; refine (szMachine_any vr va m _ (hr.below hB0) (ha.below hB0)).mono ?_; rintro e w1 ⟨rfl, hb1⟩; rw [hz]; have hB1 := hB0.trans (hb1.mono hB0.size)))
    go_ret
    exact ⟨rfl, hB1⟩
end Go.Proofs.Ytogmhpjelmlonaa.Mem
