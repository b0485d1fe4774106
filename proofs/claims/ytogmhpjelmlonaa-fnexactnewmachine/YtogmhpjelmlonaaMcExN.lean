/-
  The exact laws of chapter 6: NewMachine.
-/
import Derived.Test.YtogmhpjelmlonaaMcEx
namespace Go.Proofs.Ytogmhpjelmlonaa.Mem
open Go.ChangeShapes Go.WideShapes Go.RowKit Base Num Slc Rw Tmr Srl Rom RomOf Ex Reg
set_option linter.unusedVariables false
set_option linter.unusedSimpArgs false

theorem newMc_len (l : List Int) : (newMc l).rom.length ≤ 128 ∧ (newMc l).ram.length ≤ 64 := by
  unfold newMc
  split
  · rename_i h
    exact ⟨(romOk_len h).2, by simp [Mc.fresh]⟩
  · simp [Mc.nul]
set_option maxRecDepth 20000 in
set_option maxHeartbeats 4000000 in
theorem exNewMachine (v : Value) (l : List Int) (w : World) (hA : Sl w v l) :
    Calls Try.prog 5 #[v] w fun e w' => e = .returned (.bool true) ∧ Below w.heap.size w w' := by
  obtain ⟨a, cap, rfl, hat, hlc, hcm, hnil⟩ := id hA
  unfold maxLen at hcm
  clear hat hnil
  by_cases hsm : l.length ≤ 1048576
  · have hgt : ¬ (1048576 : Int) < (l.length : Int) := by omega
    have hM12 := newMc_len l
    generalize hM : newMc l = M at hM12
    have HM : Hid (newMc l = M) := hM
    clear hM
    have hB_0 := Below.refl w.heap.size w
    go_enter Try.func5, Try.ntmps5
    go_wp2_with fail
    go_at_call 28
    refine (to_any _ l _ (hA.below hB_0) (by omega)).mono ?_
    rintro e w1 ⟨t1, rfl, ht1, hb1⟩
    have hB_1 := hB_0.trans (hb1.mono hB_0.size)
    have sz_1 := hb1.size
    clear hB_0
    go_wp2_with fail
    go_at_call 27
    refine (newMachine_spec _ l _ ht1.sl).mono ?_
    rw [HM.out]
    rintro e w2 ⟨v2, rfl, ⟨pr, pa, rfl, hp1, hp2, hp3⟩, hb2⟩
    have hB_2 := hB_1.trans (hb2.mono hB_1.size)
    have sz_2 := hb2.size
    clear hB_1
    have P1_2 := hp1
    have P1l := hp1.lt
    have P2_2 := hp2
    have P2l := hp2.lt
    go_wp2_with (first
      | (refine al_mc rfl rfl ?_; intro w3 z3 ha3; have lz3 := z3.lt; have P1_3 := P1_2.below ha3; have P2_3 := P2_2.below ha3; have hB_3 := hB_2.trans (ha3.mono hB_2.size); have sz_3 := ha3.size)
      | (refine st_mc rfl rfl rfl rfl z3 (one_own hp1) (one_own hp2) ?_; rintro w4 P_4 o4 -; have P1_4 := P1_3.onto o4 (fun e => by have := P1l _ e; omega); have P2_4 := P2_3.onto o4 (fun e => by have := P2l _ e; omega); have hB_4 := below_onto hB_3 o4 (by omega); have sz_4 := o4.size))
    go_at_call 28
    refine (to_any _ l _ (hA.below hB_4) (by omega)).mono ?_
    rintro e w5 ⟨x5, rfl, hx5, hb5⟩
    have P_5 := P_4.below hb5
    have P1_5 := P1_4.below hb5
    have P2_5 := P2_4.below hb5
    have hB_5 := hB_4.trans (hb5.mono hB_4.size)
    have sz_5 := hb5.size
    clear P_4 P1_4 P2_4 hB_4
    have X1_5 := hx5
    have X1l := hx5.lt
    go_wp2_with fail
    go_at_call 22
    refine (newMachine_impl _ l _ hx5.sl).mono ?_
    rw [HM.out]
    rintro e w6 ⟨v6, rfl, ⟨gr, ga, rfl, hg1, hg2, hg3⟩, hb6⟩
    have P_6 := P_5.below hb6
    have P1_6 := P1_5.below hb6
    have P2_6 := P2_5.below hb6
    have X1_6 := X1_5.below hb6
    have hB_6 := hB_5.trans (hb6.mono hB_5.size)
    have sz_6 := hb6.size
    clear P_5 P1_5 P2_5 X1_5 hB_5
    have G1_6 := hg1
    have G1l := hg1.lt
    have G2_6 := hg2
    have G2l := hg2.lt
    go_wp2_with (first
      | (refine al_mc rfl rfl ?_; intro w7 z7 ha7; have lz7 := z7.lt; have P_7 := P_6.below ha7; have P1_7 := P1_6.below ha7; have P2_7 := P2_6.below ha7; have X1_7 := X1_6.below ha7; have G1_7 := G1_6.below ha7; have G2_7 := G2_6.below ha7; have hB_7 := hB_6.trans (ha7.mono hB_6.size); have sz_7 := ha7.size)
      | (refine st_mc rfl rfl rfl rfl z7 (one_own hg1) (one_own hg2) ?_; rintro w8 G_8 o8 -; have P_8 := P_7.onto o8 (by omega); have P1_8 := P1_7.onto o8 (fun e => by have := P1l _ e; omega); have P2_8 := P2_7.onto o8 (fun e => by have := P2l _ e; omega); have X1_8 := X1_7.onto o8 (fun e => by have := X1l _ e; omega); have G1_8 := G1_7.onto o8 (fun e => by have := G1l _ e; omega); have G2_8 := G2_7.onto o8 (fun e => by have := G2l _ e; omega); have hB_8 := below_onto hB_7 o8 (by omega); have sz_8 := o8.size)
      | (refine ld_mc rfl rfl rfl G_8 ?_)
      | (refine ld_mc rfl rfl rfl P_8 ?_))
    go_at_call 26
    refine (eqMachine_same gr ga pr pa M _ G1_8.sl G2_8.sl P1_8.sl P2_8.sl).mono ?_
    rintro e w9 ⟨rfl, hb9⟩
    have P_9 := P_8.below hb9
    have G_9 := G_8.below hb9
    have P1_9 := P1_8.below hb9
    have P2_9 := P2_8.below hb9
    have X1_9 := X1_8.below hb9
    have G1_9 := G1_8.below hb9
    have G2_9 := G2_8.below hb9
    have hB_9 := hB_8.trans (hb9.mono hB_8.size)
    have sz_9 := hb9.size
    clear P_8 G_8 P1_8 P2_8 X1_8 G1_8 G2_8 hB_8
    go_wp2_with fail
    go_at_call 28
    refine (to_any _ l _ (hA.below hB_9) (by omega)).mono ?_
    rintro e w10 ⟨y10, rfl, hy10, hb10⟩
    have P_10 := P_9.below hb10
    have G_10 := G_9.below hb10
    have P1_10 := P1_9.below hb10
    have P2_10 := P2_9.below hb10
    have X1_10 := X1_9.below hb10
    have G1_10 := G1_9.below hb10
    have G2_10 := G2_9.below hb10
    have hB_10 := hB_9.trans (hb10.mono hB_9.size)
    have sz_10 := hb10.size
    clear P_9 G_9 P1_9 P2_9 X1_9 G1_9 G2_9 hB_9
    go_wp2_with fail
    go_at_call 29
    refine (eq_any _ _ l l _ X1_10.sl hy10.sl).mono ?_
    rintro e w11 ⟨rfl, n11, hw11⟩
    have hb11 := drew_below hw11
    clear hw11
    have P_11 := P_10.below hb11
    have G_11 := G_10.below hb11
    have P1_11 := P1_10.below hb11
    have P2_11 := P2_10.below hb11
    have X1_11 := X1_10.below hb11
    have G1_11 := G1_10.below hb11
    have G2_11 := G2_10.below hb11
    have hB_11 := hB_10.trans (hb11.mono hB_10.size)
    have sz_11 := hb11.size
    clear P_10 G_10 P1_10 P2_10 X1_10 G1_10 G2_10 hB_10
    rw [decide_eq_true rfl]
    go_wp2_with fail
    go_at_call 30
    refine (mark_any x5 l _ _ 1 X1_11 (by omega) (by omega)).mono ?_
    rintro e w12 ⟨rfl, hx12, gw12⟩
    have ht12 : Turn (Blk x5 x5) w11 w12 := Turn.grown gw12 (fun k hk => .inl hk)
    have XB1 := X1l
    have XB2 := X1l
    have P_12 := ht12.row P_11 (fun e => by rcases e with e | e; have := XB1 _ e; omega; have := XB2 _ e; omega)
    have G_12 := ht12.row G_11 (fun e => by rcases e with e | e; have := XB1 _ e; omega; have := XB2 _ e; omega)
    have P1_12 := ht12.own P1_11 (fun k hk e => by have := P1l k hk; rcases e with e | e; have := XB1 _ e; omega; have := XB2 _ e; omega)
    have P2_12 := ht12.own P2_11 (fun k hk e => by have := P2l k hk; rcases e with e | e; have := XB1 _ e; omega; have := XB2 _ e; omega)
    have G1_12 := ht12.own G1_11 (fun k hk e => by have := G1l k hk; rcases e with e | e; have := XB1 _ e; omega; have := XB2 _ e; omega)
    have G2_12 := ht12.own G2_11 (fun k hk e => by have := G2l k hk; rcases e with e | e; have := XB1 _ e; omega; have := XB2 _ e; omega)
    have hB_12 := ht12.below hB_11 (fun k e => by rcases e with e | e; have := XB1 _ e; omega; have := XB2 _ e; omega)
    have sz_12 := ht12.size
    clear XB1 XB2 X1_11 hx12
    clear P_11 G_11 P1_11 P2_11 G1_11 G2_11 hB_11
    go_wp2_with (first
      | (refine ld_mcg rfl rfl rfl G_12 ?_)
      | (refine ld_mcg rfl rfl rfl P_12 ?_))
    go_at_call 26
    refine (eqMachine_same gr ga pr pa M _ G1_12.sl G2_12.sl P1_12.sl P2_12.sl).mono ?_
    rintro e w13 ⟨rfl, hb13⟩
    have P_13 := P_12.below hb13
    have G_13 := G_12.below hb13
    have P1_13 := P1_12.below hb13
    have P2_13 := P2_12.below hb13
    have G1_13 := G1_12.below hb13
    have G2_13 := G2_12.below hb13
    have hB_13 := hB_12.trans (hb13.mono hB_12.size)
    have sz_13 := hb13.size
    clear P_12 G_12 P1_12 P2_12 G1_12 G2_12 hB_12
    go_wp2_with (refine ld_mc rfl rfl rfl G_13 ?_)
    go_at_call 31
    refine (markMachine_any gr ga M _ _ 1 G1_13 G2_13 hg3 (by omega) (by omega) (by omega) (by omega)).mono ?_
    rintro e w14 ⟨rfl, hn1, hn2, ht14⟩
    have XB1 := G1l
    have XB2 := G2l
    have P_14 := ht14.row P_13 (fun e => by rcases e with e | e; have := XB1 _ e; omega; have := XB2 _ e; omega)
    have G_14 := ht14.row G_13 (fun e => by rcases e with e | e; have := XB1 _ e; omega; have := XB2 _ e; omega)
    have P1_14 := ht14.own P1_13 (fun k hk e => by have := P1l k hk; rcases e with e | e; have := XB1 _ e; omega; have := XB2 _ e; omega)
    have P2_14 := ht14.own P2_13 (fun k hk e => by have := P2l k hk; rcases e with e | e; have := XB1 _ e; omega; have := XB2 _ e; omega)
    have hB_14 := ht14.below hB_13 (fun k e => by rcases e with e | e; have := XB1 _ e; omega; have := XB2 _ e; omega)
    have sz_14 := ht14.size
    have G1_14 := hn1
    have G2_14 := hn2
    clear XB1 XB2
    clear P_13 G_13 P1_13 P2_13 G1_13 G2_13 hB_13
    go_wp2_with (refine ld_mc rfl rfl rfl G_14 ?_)
    go_at_call 32
    refine (heldMachine_any gr ga M _ 1 M.rom.length M.ram.length G1_14.sl G2_14.sl (by omega) (by omega) (by omega)).mono ?_
    rintro e w15 ⟨rfl, hb15⟩
    have P_15 := P_14.below hb15
    have G_15 := G_14.below hb15
    have P1_15 := P1_14.below hb15
    have P2_15 := P2_14.below hb15
    have G1_15 := G1_14.below hb15
    have G2_15 := G2_14.below hb15
    have hB_15 := hB_14.trans (hb15.mono hB_14.size)
    have sz_15 := hb15.size
    clear P_14 G_14 P1_14 P2_14 G1_14 G2_14 hB_14
    go_wp2_with fail
    go_at_call 28
    refine (to_any _ l _ (hA.below hB_15) (by omega)).mono ?_
    rintro e w16 ⟨u16, rfl, hu16, hb16⟩
    have P_16 := P_15.below hb16
    have G_16 := G_15.below hb16
    have P1_16 := P1_15.below hb16
    have P2_16 := P2_15.below hb16
    have G1_16 := G1_15.below hb16
    have G2_16 := G2_15.below hb16
    have hB_16 := hB_15.trans (hb16.mono hB_15.size)
    have sz_16 := hb16.size
    clear P_15 G_15 P1_15 P2_15 G1_15 G2_15 hB_15
    go_wp2_with fail
    go_at_call 22
    refine (newMachine_impl _ l _ hu16.sl).mono ?_
    rw [HM.out]
    rintro e w17 ⟨v17, rfl, ⟨er, ea, rfl, he1, he2, he3⟩, hb17⟩
    have P_17 := P_16.below hb17
    have G_17 := G_16.below hb17
    have P1_17 := P1_16.below hb17
    have P2_17 := P2_16.below hb17
    have G1_17 := G1_16.below hb17
    have G2_17 := G2_16.below hb17
    have hB_17 := hB_16.trans (hb17.mono hB_16.size)
    have sz_17 := hb17.size
    clear P_16 G_16 P1_16 P2_16 G1_16 G2_16 hB_16
    have E1_17 := he1
    have E1l := he1.lt
    have E2_17 := he2
    have E2l := he2.lt
    go_wp2_with (first
      | (refine al_mc rfl rfl ?_; intro w18 z18 ha18; have lz18 := z18.lt; have P_18 := P_17.below ha18; have G_18 := G_17.below ha18; have P1_18 := P1_17.below ha18; have P2_18 := P2_17.below ha18; have G1_18 := G1_17.below ha18; have G2_18 := G2_17.below ha18; have E1_18 := E1_17.below ha18; have E2_18 := E2_17.below ha18; have hB_18 := hB_17.trans (ha18.mono hB_17.size); have sz_18 := ha18.size)
      | (refine st_mc rfl rfl rfl rfl z18 (one_own he1) (one_own he2) ?_; rintro w19 E_19 o19 -; have P_19 := P_18.onto o19 (by omega); have G_19 := G_18.onto o19 (by omega); have P1_19 := P1_18.onto o19 (fun e => by have := P1l _ e; omega); have P2_19 := P2_18.onto o19 (fun e => by have := P2l _ e; omega); have G1_19 := G1_18.onto o19 (fun e => by have := G1l _ e; omega); have G2_19 := G2_18.onto o19 (fun e => by have := G2l _ e; omega); have E1_19 := E1_18.onto o19 (fun e => by have := E1l _ e; omega); have E2_19 := E2_18.onto o19 (fun e => by have := E2l _ e; omega); have hB_19 := below_onto hB_18 o19 (by omega); have sz_19 := o19.size)
      | (refine ld_mc rfl rfl rfl E_19 ?_)
      | (refine ld_mc rfl rfl rfl P_19 ?_))
    go_at_call 26
    refine (eqMachine_same er ea pr pa M _ E1_19.sl E2_19.sl P1_19.sl P2_19.sl).mono ?_
    rintro e w20 ⟨rfl, hb20⟩
    have P_20 := P_19.below hb20
    have G_20 := G_19.below hb20
    have E_20 := E_19.below hb20
    have P1_20 := P1_19.below hb20
    have P2_20 := P2_19.below hb20
    have G1_20 := G1_19.below hb20
    have G2_20 := G2_19.below hb20
    have E1_20 := E1_19.below hb20
    have E2_20 := E2_19.below hb20
    have hB_20 := hB_19.trans (hb20.mono hB_19.size)
    have sz_20 := hb20.size
    clear P_19 G_19 E_19 P1_19 P2_19 G1_19 G2_19 E1_19 E2_19 hB_19
    go_wp2_with (refine ld_mc rfl rfl rfl G_20 ?_)
    go_at_call 32
    refine (heldMachine_any gr ga M _ 1 M.rom.length M.ram.length G1_20.sl G2_20.sl (by omega) (by omega) (by omega)).mono ?_
    rintro e w21 ⟨rfl, hb21⟩
    have hB_21 := hB_20.trans (hb21.mono hB_20.size)
    go_wp2
    go_ret
    exact ⟨rfl, hB_21⟩
  · have hgt : (1048576 : Int) < (l.length : Int) := by omega
    go_enter Try.func5, Try.ntmps5
    go_wp2
    go_ret
    exact ⟨rfl, Below.refl _ _⟩
end Go.Proofs.Ytogmhpjelmlonaa.Mem
