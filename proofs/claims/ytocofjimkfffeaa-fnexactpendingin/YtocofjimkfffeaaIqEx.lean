/-
  The exact laws of chapter 8: PendingIn, Interrupted.
-/
import Derived.Test.YtocofjimkfffeaaMcEx
import Derived.Test.YtocofjimkfffeaaIq3
namespace Go.Proofs.Ytocofjimkfffeaa.Mem
open Go.ChangeShapes Go.WideShapes Go.RowKit Base Num Slc Rw Tmr Srl Rom RomOf Ex Reg
set_option linter.unusedVariables false
set_option linter.unusedSimpArgs false

/-- What else stands while the region runs. -/
structure Kw8 (M : Mc) (gP gG bP bX bG : Nat) (pr pa xr xa gr ga : Value) (m : Mc) (W : World) : Prop where
  P : MRow W gP pr pa M
  G : MRow W gG gr ga M
  p1 : Own bP W pr M.rom
  p2 : Own bP W pa M.ram
  x1 : Own bX W xr m.rom
  x2 : Own bX W xa m.ram
  g1 : Own bG W gr M.rom
  g2 : Own bG W ga M.ram
theorem Kw8.below {M m : Mc} {gP gG bP bX bG : Nat} {pr pa xr xa gr ga : Value} {W W' : World} (h : Kw8 M gP gG bP bX bG pr pa xr xa gr ga m W) (hb : Below W.heap.size W W') : Kw8 M gP gG bP bX bG pr pa xr xa gr ga m W' :=
  ⟨h.P.below hb, h.G.below hb, h.p1.below hb, h.p2.below hb, h.x1.below hb, h.x2.below hb, h.g1.below hb, h.g2.below hb⟩
theorem Kw8.drew {M m : Mc} {gP gG bP bX bG : Nat} {pr pa xr xa gr ga : Value} {W : World} (h : Kw8 M gP gG bP bX bG pr pa xr xa gr ga m W) : Kw8 M gP gG bP bX bG pr pa xr xa gr ga m W.drew := h.below (drew_below (n := 1) rfl)
/-- The same, and that the world has grown. -/
structure Kz8 (M : Mc) (gP gG bP bX bG : Nat) (pr pa xr xa gr ga : Value) (m : Mc) (z : Nat) (W : World) : Prop extends Kw8 M gP gG bP bX bG pr pa xr xa gr ga m W where
  size : z ≤ W.heap.size
theorem Kz8.below {M m : Mc} {gP gG bP bX bG z : Nat} {pr pa xr xa gr ga : Value} {W W' : World} (h : Kz8 M gP gG bP bX bG pr pa xr xa gr ga m z W) (hb : Below W.heap.size W W') : Kz8 M gP gG bP bX bG pr pa xr xa gr ga m z W' :=
  ⟨h.toKw8.below hb, Nat.le_trans h.size hb.size⟩
theorem called_len {m M : Mc} {C : Int} (h : m.called = (M, C)) : M.rom.length ≤ 4000000 ∧ M.ram.length ≤ 4000000 := by
  have e : M = m.called.1 := by rw [h]
  rw [e]
  unfold Mc.called
  cases hok : m.ok
  · exact ⟨by simp [Mc.nul], by simp [Mc.nul]⟩
  · rw [if_pos rfl]
    have hR := Mc.right (call_like hok).1
    have h1 := hR.rom
    have h2 := hR.ram
    omega
theorem interrupted_spec' {m M : Mc} {C : Int} (h : m.called = (M, C)) (v : Value) (w : World) (hm : MSl w v m) :
    Calls Try.prog 10 #[v] w fun e w' => ∃ v', e = .returned (.tuple #[v', .int .i64 C]) ∧ MOwn w.heap.size w' v' M ∧ Below w.heap.size w w' := by
  have := interrupted_spec v m w hm
  rw [h] at this
  refine this.mono ?_
  rintro e w' ⟨⟨v', rfl, hv'⟩, hb⟩
  exact ⟨v', rfl, hv', hb⟩
theorem interrupted_impl' {m M : Mc} {C : Int} (h : m.called = (M, C)) (v : Value) (w : World) (hm : MSl w v m) :
    Calls Try.prog 11 #[v] w fun e w' => ∃ v', e = .returned (.tuple #[v', .int .i64 C]) ∧ MOwn w.heap.size w' v' M ∧ Below w.heap.size w w' := by
  have := interrupted_impl v m w hm
  rw [h] at this
  refine this.mono ?_
  rintro e w' ⟨⟨v', rfl, hv'⟩, hb⟩
  exact ⟨v', rfl, hv', hb⟩
set_option maxRecDepth 20000 in
set_option maxHeartbeats 2000000 in
theorem exPendingIn (m : Mc) (vr va : Value) (w : World) (hr : Sl w vr m.rom) (ha : Sl w va m.ram) :
    Calls Try.prog 3 #[m.val vr va] w fun e w' => e = .returned (.bool true) ∧ Below w.heap.size w w' := by
  by_cases hsm : m.rom.length + m.ram.length ≤ 1048576
  · have hz : ¬ szOf m < 0 := by
      unfold szOf; split; omega; split <;> omega
    have hl1 : m.rom.length ≤ 4000000 := by omega
    have hl2 : m.ram.length ≤ 4000000 := by omega
    obtain ⟨vv, hvv⟩ : ∃ vv, vv = m.val vr va := ⟨_, rfl⟩
    rw [← hvv]
    go_enter Try.func3, Try.ntmps3
    go_wp2_with (first
      | (refine box_l rfl rfl hvv ?_; intro w0 r0 hB0)
      | (refine ld_l rfl rfl rfl r0 ?_))
    go_at_call 5
    refine (szMachine_any vr va m _ (hr.below hB0) (ha.below hB0)).mono ?_
    rintro e w1 ⟨rfl, hb1⟩
    have r1 := r0.below hb1
    have hB1 := hB0.trans (hb1.mono hB0.size)
    generalize szOf m = z at hz ⊢
    clear r0
    go_wp2_with (first
      | (refine ld_l rfl rfl rfl r1 ?_))
    go_at_call 7
    refine (toMachine_any vr va m _ (hr.below hB1) (ha.below hB1) hl1 hl2).mono ?_
    rintro e w2 ⟨v2, rfl, ⟨tr, tt, rfl, ht1, ht2, ht3⟩, hb2⟩
    have r2 := r1.below hb2
    have hB2 := hB1.trans (hb2.mono hB1.size)
    clear r1
    go_wp2_with fail
    go_at_call 6
    refine (pendingIn_spec _ m _ ⟨tr, tt, rfl, ht1.sl, ht2.sl⟩).mono ?_
    rintro e w3 ⟨rfl, hb3⟩
    have r3 := r2.below hb3
    have hB3 := hB2.trans (hb3.mono hB2.size)
    clear r2 ht1 ht2 ht3
    go_wp2_with (first
      | (refine ld_l rfl rfl rfl r3 ?_))
    go_at_call 7
    refine (toMachine_any vr va m _ (hr.below hB3) (ha.below hB3) hl1 hl2).mono ?_
    rintro e w4 ⟨v4, rfl, ⟨xr, xa, rfl, hx1, hx2, hx3⟩, hb4⟩
    have r4 := r3.below hb4
    have hB4 := hB3.trans (hb4.mono hB3.size)
    clear r3
    go_wp2_with (first
      | (refine al_mc rfl rfl ?_; intro w5 z5 hB5; have r5 := r4.below hB5; have x5 := hx1.below hB5; have y5 := hx2.below hB5; have hC5 := hB4.trans (hB5.mono hB4.size))
      | (refine st_mc rfl rfl rfl rfl z5 (one_own hx1) (one_own hx2) ?_; intro w6 z6 o6 s6; have r6 := r5.onto o6 (by have := r4.lt; omega); have x6 := x5.onto o6 (fun e => by have := hx1.lt _ e; omega); have y6 := y5.onto o6 (fun e => by have := hx2.lt _ e; omega); have hB6 := below_onto hC5 o6 (by have := hB4.size; omega))
      | (refine ld_mc rfl rfl rfl z6 ?_))
    go_at_call 8
    refine (pendingIn_impl _ m _ ⟨xr, xa, rfl, x6.sl, y6.sl⟩).mono ?_
    rintro e w7 ⟨rfl, hb7⟩
    have hB7 := hB6.trans (hb7.mono hB6.size)
    have hG : Ge w m w.heap.size w4.heap.size xr xa vr va w7 := ⟨r6.below hb7, z6.below hb7, hr.below hB7, ha.below hB7, x6.sl.below hb7, y6.sl.below hb7, hB7⟩
    clear r4 r5 r6 z5 z6 x5 x6 y5 y6 hx1 hx2 hx3 hB0 hB1 hB2 hB3 hB4 hC5 hB6 hB7
    go_wp2_with fail
    refine region_gen (by kernel_rfl) (by kernel_rfl) (fun W => Ge w m w.heap.size w4.heap.size xr xa vr va W) (Te 22 m xr xa vr va) (fun _ W W' => Below W.heap.size W W') (mono_e (by kernel_rfl)) hG.drew ?step ?done
    case step =>
      intro L ix o A W hi hI hL hd
      have hin : ix < 5 := by
        by_cases hl : ix < 5
        · exact hl
        · simp [hl] at hi
      have hsz : A.tmps.size = 27 := hI.size
      have hg := hI.g
      rcases ix with _ | ix
      · obtain rfl := (Option.some.inj hi).symm
        have e : A.eval (.tmp 5) = .pointer (some ⟨w4.heap.size, 0, none⟩) := hI.old 5 (by kernel_rfl)
        exact at_op rfl rfl (wp_load_row _ _ rfl _ e _ _ _ _ hg.x.row Try.underlying34 rfl info_mc ⟨_, rfl, getD_put_same _ _ _ (by omega), hg, Below.refl _ _⟩)
      rcases ix with _ | ix
      · obtain rfl := (Option.some.inj hi).symm
        have e : A.eval (.tmp 1) = .pointer (some ⟨w.heap.size, 0, none⟩) := hI.old 1 (by kernel_rfl)
        exact at_op rfl rfl (wp_load_row _ _ rfl _ e _ _ _ _ hg.arg.row Try.underlying28 rfl info_l ⟨_, rfl, getD_put_same _ _ _ (by omega), hg, Below.refl _ _⟩)
      rcases ix with _ | ix
      · obtain rfl := (Option.some.inj hi).symm
        have e0 : A.eval (.tmp 23) = m.val vr va := hI.get hd 1 rfl (by kernel_rfl)
        refine at_op rfl rfl (call_op rfl Try.func7 (by kernel_rfl) (by kernel_rfl) ?_)
        simp only [List.map_cons, List.map_nil, e0]
        refine (toMachine_any vr va m W hg.ar hg.aa hl1 hl2).mono ?_
        rintro e w5 ⟨v5, rfl, ho5, hb5⟩
        refine ⟨_, rfl, _, rfl, ?_, hg.below hb5, hb5⟩
        have e' : at_ (A.put (some 24) v5) 24 = v5 := getD_put_same _ _ _ (by omega)
        show MSl w5 (at_ (A.put (some 24) v5) 24) m
        rw [e']; exact ho5.sl
      rcases ix with _ | ix
      · obtain rfl := (Option.some.inj hi).symm
        have e0 : A.eval (.tmp 22) = m.val xr xa := hI.get hd 0 rfl (by kernel_rfl)
        obtain ⟨ur, ua, e1, hu1, hu2⟩ : MSl W (at_ A 24) m := hI.get hd 2 rfl (by kernel_rfl)
        have e1' : A.eval (.tmp 24) = m.val ur ua := e1
        refine at_op rfl rfl (call_op rfl Try.func9 (by kernel_rfl) (by kernel_rfl) ?_)
        simp only [List.map_cons, List.map_nil, e0, e1']
        refine (eqMachine_same xr xa ur ua m W hg.xr hg.xa hu1 hu2).mono ?_
        rintro e w5 ⟨rfl, hb5⟩
        exact ⟨_, rfl, _, rfl, getD_put_same _ _ _ (by omega), hg.below hb5, hb5⟩
      rcases ix with _ | ix
      · obtain rfl := (Option.some.inj hi).symm
        have e : A.eval (.tmp 25) = .bool true := hI.get hd 3 rfl (by kernel_rfl)
        refine at_op rfl rfl (val_op (v := .bool false) ?_ ⟨_, rfl, getD_put_same _ _ _ (by omega), hg, Below.refl _ _⟩)
        unfold execOp
        simp only [List.getElem_toArray, List.getElem_cons_zero, List.getElem_cons_succ, e]
        simp [go_sem]
      omega
    case done =>
      intro A W hI
      have hg := hI.g
      have es : A.tmps.getD 26 undef = .bool false := hI.told 4 _ rfl rfl
      have e5 : A.tmps.getD 5 undef = .pointer (some ⟨w4.heap.size, 0, none⟩) := hI.old 5 (by kernel_rfl)
      have e1 : A.tmps.getD 1 undef = .pointer (some ⟨w.heap.size, 0, none⟩) := hI.old 1 (by kernel_rfl)
      have hA := frame_lit A 27 hI.size
      have hde : A.defers = [] := hI.defers
      rw [hde, show List.range 27 = [0, 1, 2, 3, 4, 5, 6, 7, 8, 9, 10, 11, 12, 13, 14, 15, 16, 17, 18, 19, 20, 21, 22, 23, 24, 25, 26] from rfl] at hA
      simp only [List.map_cons, List.map_nil, es, e5, e1] at hA
      rw [hA]
      clear hA es e5 e1 hI hde
      go_wp2
      go_ret
      exact ⟨rfl, hg.bel⟩
  · have hz : szOf m = -1 := by
      unfold szOf; split; rfl; split; rfl; omega
    obtain ⟨vv, hvv⟩ : ∃ vv, vv = m.val vr va := ⟨_, rfl⟩
    rw [← hvv]
    go_enter Try.func3, Try.ntmps3
    go_wp2_with (first
      | (refine box_l rfl rfl hvv ?_; intro w0 r0 hB0)
      | (refine ld_l rfl rfl rfl r0 ?_)
      | (go_at_call 5; refine (szMachine_any vr va m _ (hr.below hB0) (ha.below hB0)).mono ?_; rintro e w1 ⟨rfl, hb1⟩; rw [hz]; have hB1 := hB0.trans (hb1.mono hB0.size)))
    go_ret
    exact ⟨rfl, hB1⟩
set_option maxRecDepth 20000 in
set_option maxHeartbeats 4000000 in
theorem exInterrupted (m : Mc) (vr va : Value) (w : World) (hr : Sl w vr m.rom) (ha : Sl w va m.ram) :
    Calls Try.prog 4 #[m.val vr va] w fun e w' => e = .returned (.bool true) ∧ Below w.heap.size w w' := by
  by_cases hsm : m.rom.length + m.ram.length ≤ 1048576
  · have hz : ¬ szOf m < 0 := by
      unfold szOf; split; omega; split <;> omega
    have hl1 : m.rom.length ≤ 4000000 := by omega
    have hl2 : m.ram.length ≤ 4000000 := by omega
    obtain ⟨vv, hvv⟩ : ∃ vv, vv = m.val vr va := ⟨_, rfl⟩
    rw [← hvv]
    go_enter Try.func4, Try.ntmps4
    go_wp2_with (first
      | (refine box_l rfl rfl hvv ?_; intro w0 r0 hB0)
      | (refine ld_l rfl rfl rfl r0 ?_))
    go_at_call 5
    refine (szMachine_any vr va m _ (hr.below hB0) (ha.below hB0)).mono ?_
    rintro e w1 ⟨rfl, hb1⟩
    have r1 := r0.below hb1
    have hB1 := hB0.trans (hb1.mono hB0.size)
    generalize szOf m = z at hz ⊢
    clear r0
    go_wp2_with (first
      | (refine ld_l rfl rfl rfl r1 ?_))
    go_at_call 7
    refine (toMachine_any vr va m _ (hr.below hB1) (ha.below hB1) hl1 hl2).mono ?_
    rintro e w2 ⟨v2, rfl, ⟨tr, tt, rfl, ht1, ht2, ht3⟩, hb2⟩
    have r2 := r1.below hb2
    have hB2 := hB1.trans (hb2.mono hB1.size)
    clear r1
    obtain ⟨M, C, hM⟩ : ∃ M C, m.called = (M, C) := ⟨_, _, rfl⟩
    obtain ⟨hM1, hM2⟩ := called_len hM
    have HM : Hid (m.called = (M, C)) := hM
    clear hM
    have A_2 := r2
    have hB_2 := hB2
    have sz0 := A_2.lt
    have sz1 := hB1.size
    have sz_2 := hb2.size
    have szw := hB2.size
    clear r2 hB0 hB1 hB2
    go_wp2_with fail
    go_at_call 10
    refine (interrupted_spec' HM.out _ _ ⟨tr, tt, rfl, ht1.sl, ht2.sl⟩).mono ?_
    rintro e w3 ⟨v3, rfl, ⟨pr, pa, rfl, hp1, hp2, hp3⟩, hb3⟩
    have A_3 := A_2.below hb3
    have hB_3 := hB_2.trans (hb3.mono hB_2.size)
    have sz_3 := hb3.size
    clear A_2 hB_2
    clear ht1 ht2 ht3
    have P1_3 := hp1
    have P1l := hp1.lt
    have P2_3 := hp2
    have P2l := hp2.lt
    go_wp2_with (first
      | (refine al_mc rfl rfl ?_; intro w4 z4 ha4; have lz4 := z4.lt; have A_4 := A_3.below ha4; have P1_4 := P1_3.below ha4; have P2_4 := P2_3.below ha4; have hB_4 := hB_3.trans (ha4.mono hB_3.size); have sz_4 := ha4.size)
      | (refine st_mc rfl rfl rfl rfl z4 (one_own hp1) (one_own hp2) ?_; rintro w5 P_5 o5 -; have A_5 := A_4.onto o5 (by omega); have P1_5 := P1_4.onto o5 (fun e => by have := P1l _ e; omega); have P2_5 := P2_4.onto o5 (fun e => by have := P2l _ e; omega); have hB_5 := below_onto hB_4 o5 (by omega); have sz_5 := o5.size)
      | (refine ld_l rfl rfl rfl A_5 ?_))
    go_at_call 7
    refine (toMachine_any vr va m _ (hr.below hB_5) (ha.below hB_5) hl1 hl2).mono ?_
    rintro e w6 ⟨v6, rfl, ⟨xr, xa, rfl, hx1, hx2, hx3⟩, hb6⟩
    have A_6 := A_5.below hb6
    have P_6 := P_5.below hb6
    have P1_6 := P1_5.below hb6
    have P2_6 := P2_5.below hb6
    have hB_6 := hB_5.trans (hb6.mono hB_5.size)
    have sz_6 := hb6.size
    clear A_5 P_5 P1_5 P2_5 hB_5
    have X1_6 := hx1
    have X1l := hx1.lt
    have X2_6 := hx2
    have X2l := hx2.lt
    go_wp2_with (first
      | (refine al_mc rfl rfl ?_; intro w7 z7 ha7; have lz7 := z7.lt; have A_7 := A_6.below ha7; have P_7 := P_6.below ha7; have P1_7 := P1_6.below ha7; have P2_7 := P2_6.below ha7; have X1_7 := X1_6.below ha7; have X2_7 := X2_6.below ha7; have hB_7 := hB_6.trans (ha7.mono hB_6.size); have sz_7 := ha7.size)
      | (refine st_mc rfl rfl rfl rfl z7 (one_own hx1) (one_own hx2) ?_; rintro w8 X_8 o8 -; have A_8 := A_7.onto o8 (by omega); have P_8 := P_7.onto o8 (by omega); have P1_8 := P1_7.onto o8 (fun e => by have := P1l _ e; omega); have P2_8 := P2_7.onto o8 (fun e => by have := P2l _ e; omega); have X1_8 := X1_7.onto o8 (fun e => by have := X1l _ e; omega); have X2_8 := X2_7.onto o8 (fun e => by have := X2l _ e; omega); have hB_8 := below_onto hB_7 o8 (by omega); have sz_8 := o8.size)
      | (refine ld_mc rfl rfl rfl X_8 ?_))
    go_at_call 11
    refine (interrupted_impl' HM.out _ _ ⟨xr, xa, rfl, X1_8.sl, X2_8.sl⟩).mono ?_
    rintro e w9 ⟨v9, rfl, ⟨gr, ga, rfl, hg1, hg2, hg3⟩, hb9⟩
    have A_9 := A_8.below hb9
    have P_9 := P_8.below hb9
    have X_9 := X_8.below hb9
    have P1_9 := P1_8.below hb9
    have P2_9 := P2_8.below hb9
    have X1_9 := X1_8.below hb9
    have X2_9 := X2_8.below hb9
    have hB_9 := hB_8.trans (hb9.mono hB_8.size)
    have sz_9 := hb9.size
    clear A_8 P_8 X_8 P1_8 P2_8 X1_8 X2_8 hB_8
    have G1_9 := hg1
    have G1l := hg1.lt
    have G2_9 := hg2
    have G2l := hg2.lt
    go_wp2_with (first
      | (refine al_mc rfl rfl ?_; intro w10 z10 ha10; have lz10 := z10.lt; have A_10 := A_9.below ha10; have P_10 := P_9.below ha10; have X_10 := X_9.below ha10; have P1_10 := P1_9.below ha10; have P2_10 := P2_9.below ha10; have X1_10 := X1_9.below ha10; have X2_10 := X2_9.below ha10; have G1_10 := G1_9.below ha10; have G2_10 := G2_9.below ha10; have hB_10 := hB_9.trans (ha10.mono hB_9.size); have sz_10 := ha10.size)
      | (refine st_mc rfl rfl rfl rfl z10 (one_own hg1) (one_own hg2) ?_; rintro w11 G_11 o11 -; have A_11 := A_10.onto o11 (by omega); have P_11 := P_10.onto o11 (by omega); have X_11 := X_10.onto o11 (by omega); have P1_11 := P1_10.onto o11 (fun e => by have := P1l _ e; omega); have P2_11 := P2_10.onto o11 (fun e => by have := P2l _ e; omega); have X1_11 := X1_10.onto o11 (fun e => by have := X1l _ e; omega); have X2_11 := X2_10.onto o11 (fun e => by have := X2l _ e; omega); have G1_11 := G1_10.onto o11 (fun e => by have := G1l _ e; omega); have G2_11 := G2_10.onto o11 (fun e => by have := G2l _ e; omega); have hB_11 := below_onto hB_10 o11 (by omega); have sz_11 := o11.size)
      | (refine ld_mc rfl rfl rfl G_11 ?_)
      | (refine ld_mc rfl rfl rfl P_11 ?_))
    go_at_call 9
    refine (eqMachine_same gr ga pr pa M _ G1_11.sl G2_11.sl P1_11.sl P2_11.sl).mono ?_
    rintro e w12 ⟨rfl, hb12⟩
    have A_12 := A_11.below hb12
    have P_12 := P_11.below hb12
    have X_12 := X_11.below hb12
    have G_12 := G_11.below hb12
    have P1_12 := P1_11.below hb12
    have P2_12 := P2_11.below hb12
    have X1_12 := X1_11.below hb12
    have X2_12 := X2_11.below hb12
    have G1_12 := G1_11.below hb12
    have G2_12 := G2_11.below hb12
    have hB_12 := hB_11.trans (hb12.mono hB_11.size)
    have sz_12 := hb12.size
    clear A_11 P_11 X_11 G_11 P1_11 P2_11 X1_11 X2_11 G1_11 G2_11 hB_11
    have hG : Ge w m w.heap.size w6.heap.size xr xa vr va w12 := ⟨A_12, X_12, hr.below hB_12, ha.below hB_12, X1_12.sl, X2_12.sl, hB_12⟩
    have hK : Kz8 M w3.heap.size w9.heap.size w2.heap.size w5.heap.size w8.heap.size pr pa xr xa gr ga m w12.heap.size w12 := ⟨⟨P_12, G_12, P1_12, P2_12, X1_12, X2_12, G1_12, G2_12⟩, Nat.le_refl _⟩
    clear A_12 P_12 X_12 G_12 P1_12 P2_12 X1_12 X2_12 G1_12 G2_12 hB_12
    go_wp2_with fail
    refine region_gen (by kernel_rfl) (by kernel_rfl) (fun W => Ge w m w.heap.size w6.heap.size xr xa vr va W ∧ Kz8 M w3.heap.size w9.heap.size w2.heap.size w5.heap.size w8.heap.size pr pa xr xa gr ga m w12.heap.size W) (Te 41 m xr xa vr va) (fun _ W W' => Below W.heap.size W W') (mono_e (by kernel_rfl)) ⟨hG.drew, hK.below (drew_below (n := 1) rfl)⟩ ?step ?done
    case step =>
      intro L ix o A W hi hI hL hd
      have hin : ix < 5 := by
        by_cases hl : ix < 5
        · exact hl
        · simp [hl] at hi
      have hsz : A.tmps.size = 96 := hI.size
      obtain ⟨hg, hk⟩ := hI.g
      rcases ix with _ | ix
      · obtain rfl := (Option.some.inj hi).symm
        have e : A.eval (.tmp 6) = .pointer (some ⟨w6.heap.size, 0, none⟩) := hI.old 6 (by kernel_rfl)
        exact at_op rfl rfl (wp_load_row _ _ rfl _ e _ _ _ _ hg.x.row Try.underlying34 rfl info_mc ⟨_, rfl, getD_put_same _ _ _ (by omega), ⟨hg, hk⟩, Below.refl _ _⟩)
      rcases ix with _ | ix
      · obtain rfl := (Option.some.inj hi).symm
        have e : A.eval (.tmp 1) = .pointer (some ⟨w.heap.size, 0, none⟩) := hI.old 1 (by kernel_rfl)
        exact at_op rfl rfl (wp_load_row _ _ rfl _ e _ _ _ _ hg.arg.row Try.underlying28 rfl info_l ⟨_, rfl, getD_put_same _ _ _ (by omega), ⟨hg, hk⟩, Below.refl _ _⟩)
      rcases ix with _ | ix
      · obtain rfl := (Option.some.inj hi).symm
        have e0 : A.eval (.tmp 42) = m.val vr va := hI.get hd 1 rfl (by kernel_rfl)
        refine at_op rfl rfl (call_op rfl Try.func7 (by kernel_rfl) (by kernel_rfl) ?_)
        simp only [List.map_cons, List.map_nil, e0]
        refine (toMachine_any vr va m W hg.ar hg.aa hl1 hl2).mono ?_
        rintro e w5 ⟨v5, rfl, ho5, hb5⟩
        refine ⟨_, rfl, _, rfl, ?_, ⟨hg.below hb5, hk.below hb5⟩, hb5⟩
        have e' : at_ (A.put (some 43) v5) 43 = v5 := getD_put_same _ _ _ (by omega)
        show MSl w5 (at_ (A.put (some 43) v5) 43) m
        rw [e']; exact ho5.sl
      rcases ix with _ | ix
      · obtain rfl := (Option.some.inj hi).symm
        have e0 : A.eval (.tmp 41) = m.val xr xa := hI.get hd 0 rfl (by kernel_rfl)
        obtain ⟨ur, ua, e1, hu1, hu2⟩ : MSl W (at_ A 43) m := hI.get hd 2 rfl (by kernel_rfl)
        have e1' : A.eval (.tmp 43) = m.val ur ua := e1
        refine at_op rfl rfl (call_op rfl Try.func9 (by kernel_rfl) (by kernel_rfl) ?_)
        simp only [List.map_cons, List.map_nil, e0, e1']
        refine (eqMachine_same xr xa ur ua m W hg.xr hg.xa hu1 hu2).mono ?_
        rintro e w5 ⟨rfl, hb5⟩
        exact ⟨_, rfl, _, rfl, getD_put_same _ _ _ (by omega), ⟨hg.below hb5, hk.below hb5⟩, hb5⟩
      rcases ix with _ | ix
      · obtain rfl := (Option.some.inj hi).symm
        have e : A.eval (.tmp 44) = .bool true := hI.get hd 3 rfl (by kernel_rfl)
        refine at_op rfl rfl (val_op (v := .bool false) ?_ ⟨_, rfl, getD_put_same _ _ _ (by omega), ⟨hg, hk⟩, Below.refl _ _⟩)
        unfold execOp
        simp only [List.getElem_toArray, List.getElem_cons_zero, List.getElem_cons_succ, e]
        simp [go_sem]
      omega
    case done =>
      intro A W hI
      obtain ⟨hg, hk⟩ := hI.g
      have es : A.tmps.getD 45 undef = .bool false := hI.told 4 _ rfl rfl
      have e1 : A.tmps.getD 1 undef = .pointer (some ⟨w.heap.size, 0, none⟩) := hI.old 1 (by kernel_rfl)
      have e4 : A.tmps.getD 4 undef = .pointer (some ⟨w3.heap.size, 0, none⟩) := hI.old 4 (by kernel_rfl)
      have e5 : A.tmps.getD 5 undef = .int .i64 C := hI.old 5 (by kernel_rfl)
      have e6 : A.tmps.getD 6 undef = .pointer (some ⟨w6.heap.size, 0, none⟩) := hI.old 6 (by kernel_rfl)
      have e7 : A.tmps.getD 7 undef = .pointer (some ⟨w9.heap.size, 0, none⟩) := hI.old 7 (by kernel_rfl)
      have e8 : A.tmps.getD 8 undef = .int .i64 C := hI.old 8 (by kernel_rfl)
      have hA := frame_lit A 96 hI.size
      have hde : A.defers = [] := hI.defers
      rw [hde, show List.range 96 = [0, 1, 2, 3, 4, 5, 6, 7, 8, 9, 10, 11, 12, 13, 14, 15, 16, 17, 18, 19, 20, 21, 22, 23, 24, 25, 26, 27, 28, 29, 30, 31, 32, 33, 34, 35, 36, 37, 38, 39, 40, 41, 42, 43, 44, 45, 46, 47, 48, 49, 50, 51, 52, 53, 54, 55, 56, 57, 58, 59, 60, 61, 62, 63, 64, 65, 66, 67, 68, 69, 70, 71, 72, 73, 74, 75, 76, 77, 78, 79, 80, 81, 82, 83, 84, 85, 86, 87, 88, 89, 90, 91, 92, 93, 94, 95] from rfl] at hA
      simp only [List.map_cons, List.map_nil, es, e1, e4, e5, e6, e7, e8] at hA
      rw [hA]
      clear hA es e1 e4 e5 e6 e7 e8 hI hde
      have szW := hk.size
      have A_13 := hg.arg
      have X_13 := hg.x
      have P_13 := hk.P
      have G_13 := hk.G
      have P1_13 := hk.p1
      have P2_13 := hk.p2
      have X1_13 := hk.x1
      have X2_13 := hk.x2
      have G1_13 := hk.g1
      have G2_13 := hk.g2
      have hB_13 := hg.bel
      clear hg hk
      go_wp2_with (refine ld_mc rfl rfl rfl X_13 ?_)
      go_at_call 12
      refine (markMachine_any xr xa m _ _ 1 X1_13 X2_13 hx3 hl1 hl2 (by omega) (by omega)).mono ?_
      rintro e w14 ⟨rfl, hm1, hm2, ht14⟩
      have XB1 := X1l
      have XB2 := X2l
      have A_14 := ht14.row A_13 (fun e => by rcases e with e | e; have := XB1 _ e; omega; have := XB2 _ e; omega)
      have P_14 := ht14.row P_13 (fun e => by rcases e with e | e; have := XB1 _ e; omega; have := XB2 _ e; omega)
      have X_14 := ht14.row X_13 (fun e => by rcases e with e | e; have := XB1 _ e; omega; have := XB2 _ e; omega)
      have G_14 := ht14.row G_13 (fun e => by rcases e with e | e; have := XB1 _ e; omega; have := XB2 _ e; omega)
      have P1_14 := ht14.own P1_13 (fun k hk e => by have := P1l k hk; rcases e with e | e; have := XB1 _ e; omega; have := XB2 _ e; omega)
      have P2_14 := ht14.own P2_13 (fun k hk e => by have := P2l k hk; rcases e with e | e; have := XB1 _ e; omega; have := XB2 _ e; omega)
      have G1_14 := ht14.own G1_13 (fun k hk e => by have := G1l k hk; rcases e with e | e; have := XB1 _ e; omega; have := XB2 _ e; omega)
      have G2_14 := ht14.own G2_13 (fun k hk e => by have := G2l k hk; rcases e with e | e; have := XB1 _ e; omega; have := XB2 _ e; omega)
      have hB_14 := ht14.below hB_13 (fun k e => by rcases e with e | e; have := XB1 _ e; omega; have := XB2 _ e; omega)
      have sz_14 := ht14.size
      clear XB1 XB2 X1_13 X2_13
      clear A_13 P_13 X_13 G_13 P1_13 P2_13 G1_13 G2_13 hB_13
      go_wp2_with (first
        | (refine ld_mcg rfl rfl rfl G_14 ?_)
        | (refine ld_mcg rfl rfl rfl P_14 ?_))
      go_at_call 9
      refine (eqMachine_same gr ga pr pa M _ G1_14.sl G2_14.sl P1_14.sl P2_14.sl).mono ?_
      rintro e w15 ⟨rfl, hb15⟩
      have A_15 := A_14.below hb15
      have P_15 := P_14.below hb15
      have X_15 := X_14.below hb15
      have G_15 := G_14.below hb15
      have P1_15 := P1_14.below hb15
      have P2_15 := P2_14.below hb15
      have G1_15 := G1_14.below hb15
      have G2_15 := G2_14.below hb15
      have hB_15 := hB_14.trans (hb15.mono hB_14.size)
      have sz_15 := hb15.size
      clear A_14 P_14 X_14 G_14 P1_14 P2_14 G1_14 G2_14 hB_14
      go_wp2_with (refine ld_mc rfl rfl rfl G_15 ?_)
      go_at_call 12
      refine (markMachine_any gr ga M _ _ 1 G1_15 G2_15 hg3 (by omega) (by omega) (by omega) (by omega)).mono ?_
      rintro e w16 ⟨rfl, hn1, hn2, ht16⟩
      have XB1 := G1l
      have XB2 := G2l
      have A_16 := ht16.row A_15 (fun e => by rcases e with e | e; have := XB1 _ e; omega; have := XB2 _ e; omega)
      have P_16 := ht16.row P_15 (fun e => by rcases e with e | e; have := XB1 _ e; omega; have := XB2 _ e; omega)
      have X_16 := ht16.row X_15 (fun e => by rcases e with e | e; have := XB1 _ e; omega; have := XB2 _ e; omega)
      have G_16 := ht16.row G_15 (fun e => by rcases e with e | e; have := XB1 _ e; omega; have := XB2 _ e; omega)
      have P1_16 := ht16.own P1_15 (fun k hk e => by have := P1l k hk; rcases e with e | e; have := XB1 _ e; omega; have := XB2 _ e; omega)
      have P2_16 := ht16.own P2_15 (fun k hk e => by have := P2l k hk; rcases e with e | e; have := XB1 _ e; omega; have := XB2 _ e; omega)
      have hB_16 := ht16.below hB_15 (fun k e => by rcases e with e | e; have := XB1 _ e; omega; have := XB2 _ e; omega)
      have sz_16 := ht16.size
      have G1_16 := hn1
      have G2_16 := hn2
      clear XB1 XB2
      clear A_15 P_15 X_15 G_15 P1_15 P2_15 G1_15 G2_15 hB_15
      go_wp2_with (refine ld_mc rfl rfl rfl G_16 ?_)
      go_at_call 13
      refine (heldMachine_any gr ga M _ 1 M.rom.length M.ram.length G1_16.sl G2_16.sl (by omega) (by omega) (by omega)).mono ?_
      rintro e w17 ⟨rfl, hb17⟩
      have A_17 := A_16.below hb17
      have P_17 := P_16.below hb17
      have X_17 := X_16.below hb17
      have G_17 := G_16.below hb17
      have P1_17 := P1_16.below hb17
      have P2_17 := P2_16.below hb17
      have G1_17 := G1_16.below hb17
      have G2_17 := G2_16.below hb17
      have hB_17 := hB_16.trans (hb17.mono hB_16.size)
      have sz_17 := hb17.size
      clear A_16 P_16 X_16 G_16 P1_16 P2_16 G1_16 G2_16 hB_16
      go_wp2_with (refine ld_l rfl rfl rfl A_17 ?_)
      go_at_call 7
      refine (toMachine_any vr va m _ (hr.below hB_17) (ha.below hB_17) hl1 hl2).mono ?_
      rintro e w18 ⟨v18, rfl, ⟨yr, ya, rfl, hy1, hy2, hy3⟩, hb18⟩
      have A_18 := A_17.below hb18
      have P_18 := P_17.below hb18
      have X_18 := X_17.below hb18
      have G_18 := G_17.below hb18
      have P1_18 := P1_17.below hb18
      have P2_18 := P2_17.below hb18
      have G1_18 := G1_17.below hb18
      have G2_18 := G2_17.below hb18
      have hB_18 := hB_17.trans (hb18.mono hB_17.size)
      have sz_18 := hb18.size
      clear A_17 P_17 X_17 G_17 P1_17 P2_17 G1_17 G2_17 hB_17
      go_wp2_with fail
      go_at_call 11
      refine (interrupted_impl' HM.out _ _ ⟨yr, ya, rfl, hy1.sl, hy2.sl⟩).mono ?_
      rintro e w19 ⟨v19, rfl, ⟨er, ea, rfl, he1, he2, he3⟩, hb19⟩
      have A_19 := A_18.below hb19
      have P_19 := P_18.below hb19
      have X_19 := X_18.below hb19
      have G_19 := G_18.below hb19
      have P1_19 := P1_18.below hb19
      have P2_19 := P2_18.below hb19
      have G1_19 := G1_18.below hb19
      have G2_19 := G2_18.below hb19
      have hB_19 := hB_18.trans (hb19.mono hB_18.size)
      have sz_19 := hb19.size
      clear A_18 P_18 X_18 G_18 P1_18 P2_18 G1_18 G2_18 hB_18
      have E1_19 := he1
      have E1l := he1.lt
      have E2_19 := he2
      have E2l := he2.lt
      go_wp2_with (first
        | (refine al_mc rfl rfl ?_; intro w20 z20 ha20; have lz20 := z20.lt; have A_20 := A_19.below ha20; have P_20 := P_19.below ha20; have X_20 := X_19.below ha20; have G_20 := G_19.below ha20; have P1_20 := P1_19.below ha20; have P2_20 := P2_19.below ha20; have G1_20 := G1_19.below ha20; have G2_20 := G2_19.below ha20; have E1_20 := E1_19.below ha20; have E2_20 := E2_19.below ha20; have hB_20 := hB_19.trans (ha20.mono hB_19.size); have sz_20 := ha20.size)
        | (refine st_mc rfl rfl rfl rfl z20 (one_own he1) (one_own he2) ?_; rintro w21 E_21 o21 -; have A_21 := A_20.onto o21 (by omega); have P_21 := P_20.onto o21 (by omega); have X_21 := X_20.onto o21 (by omega); have G_21 := G_20.onto o21 (by omega); have P1_21 := P1_20.onto o21 (fun e => by have := P1l _ e; omega); have P2_21 := P2_20.onto o21 (fun e => by have := P2l _ e; omega); have G1_21 := G1_20.onto o21 (fun e => by have := G1l _ e; omega); have G2_21 := G2_20.onto o21 (fun e => by have := G2l _ e; omega); have E1_21 := E1_20.onto o21 (fun e => by have := E1l _ e; omega); have E2_21 := E2_20.onto o21 (fun e => by have := E2l _ e; omega); have hB_21 := below_onto hB_20 o21 (by omega); have sz_21 := o21.size)
        | (refine ld_mc rfl rfl rfl E_21 ?_)
        | (refine ld_mc rfl rfl rfl P_21 ?_))
      go_at_call 9
      refine (eqMachine_same er ea pr pa M _ E1_21.sl E2_21.sl P1_21.sl P2_21.sl).mono ?_
      rintro e w22 ⟨rfl, hb22⟩
      have A_22 := A_21.below hb22
      have P_22 := P_21.below hb22
      have X_22 := X_21.below hb22
      have G_22 := G_21.below hb22
      have E_22 := E_21.below hb22
      have P1_22 := P1_21.below hb22
      have P2_22 := P2_21.below hb22
      have G1_22 := G1_21.below hb22
      have G2_22 := G2_21.below hb22
      have E1_22 := E1_21.below hb22
      have E2_22 := E2_21.below hb22
      have hB_22 := hB_21.trans (hb22.mono hB_21.size)
      have sz_22 := hb22.size
      clear A_21 P_21 X_21 G_21 E_21 P1_21 P2_21 G1_21 G2_21 E1_21 E2_21 hB_21
      go_wp2_with (refine ld_mc rfl rfl rfl G_22 ?_)
      go_at_call 13
      refine (heldMachine_any gr ga M _ 1 M.rom.length M.ram.length G1_22.sl G2_22.sl (by omega) (by omega) (by omega)).mono ?_
      rintro e w23 ⟨rfl, hb23⟩
      have hB_23 := hB_22.trans (hb23.mono hB_22.size)
      go_wp2
      go_ret
      exact ⟨rfl, hB_23⟩
  · have hz : szOf m = -1 := by
      unfold szOf; split; rfl; split; rfl; omega
    obtain ⟨vv, hvv⟩ : ∃ vv, vv = m.val vr va := ⟨_, rfl⟩
    rw [← hvv]
    go_enter Try.func4, Try.ntmps4
    go_wp2_with (first
      | (refine box_l rfl rfl hvv ?_; intro w0 r0 hB0)
      | (refine ld_l rfl rfl rfl r0 ?_)
      | (go_at_call 5; refine (szMachine_any vr va m _ (hr.below hB0) (ha.below hB0)).mono ?_; rintro e w1 ⟨rfl, hb1⟩; rw [hz]; have hB1 := hB0.trans (hb1.mono hB0.size)))
    go_ret
    exact ⟨rfl, hB1⟩
end Go.Proofs.Ytocofjimkfffeaa.Mem
