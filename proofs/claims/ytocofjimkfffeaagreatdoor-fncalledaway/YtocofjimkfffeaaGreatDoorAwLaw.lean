/-
  FnCalledAway: nobody is called away who does not want it; who is, comes back by rti where he was.
-/
import Derived.Test.YtocofjimkfffeaaGreatDoorAwP
import Derived.Test.YtocofjimkfffeaaGreatDoorIq3
import Derived.Test.YtocofjimkfffeaaGreatDoorExLaw
namespace Go.Proofs.YtocofjimkfffeaaGreatDoor.Mem
open Go.ChangeShapes Go.WideShapes Go.RowKit Base Draw Slc Num Rw Tmr Srl Rom RomOf Reg Opl
set_option linter.unusedVariables false
set_option linter.unusedSimpArgs false

def lenOf : Value → Nat
  | .slice _ n _ => n
  | _ => 0
theorem all_set {l : List Int} {k : Nat} {z : Int} (h : l.all bok = true) (hz : bok z = true) : (l.set k z).all bok = true := by
  rw [List.all_eq_true]
  intro x hx
  rcases List.mem_or_eq_of_mem_set hx with e | e
  · exact List.all_eq_true.1 h x e
  · rw [e]; exact hz
theorem set_29 {l : List Int} {k : Nat} (hl : l.length = 60) (h : ∀ j : Nat, 16 ≤ j → j < k → l.getD j 0 = 29) (hk : k < 60) : ∀ j : Nat, 16 ≤ j → j < k + 1 → (l.set k 29).getD j 0 = 29 := fun j h1 h2 => by
  by_cases e : j = k
  · subst e
    simp [List.getD_eq_getElem?_getD, hl, hk]
  · have := h j h1 (by omega)
    simp only [List.getD_eq_getElem?_getD] at this ⊢
    rw [List.getElem?_set_ne (fun e' => e e'.symm)]
    exact this
set_option maxRecDepth 20000 in
set_option maxHeartbeats 4000000 in
theorem calledAway_any (a : Option Addr) (len cap : Nat) (w : World) (hc : CodeAt w a len) (ho : OpsAt w) :
    Calls Tryz.prog 4 #[.slice a len cap] w fun e w' => e = .returned (.bool true) ∧ Below w.heap.size w w' := by
  by_cases hl : len ≤ 4096
  · have hs : decide ((4096 : Int) < (len : Int)) = false := by simp; omega
    go_enter Tryz.func4, Tryz.ntmps4
    go_wp2_with (go_at_call 5; refine (big_m _ _ _ _).mono ?_; rintro e w0 ⟨rfl, rfl⟩; rw [hs])
    go_at_call 15
    refine (drawInterrupted_any a len cap _ hc hl).mono ?_
    rintro e w1 ⟨x, y, M, rfl, hm1, hB_1⟩
    have a1_1 := hm1.s1
    have a2_1 := hm1.s2
    obtain ⟨N, I, hN⟩ : ∃ N I, M.called = (N, I) := ⟨_, _, rfl⟩
    have HN : Hid (M.called = (N, I)) := hN
    clear hN
    go_wp2_with (first
      | (refine al_mc rfl rfl ?_; intro w2 z2 hb2)
      | (refine st_mc rfl rfl rfl rfl z2 (one_sl hm1.s1) (one_sl hm1.s2) ?_; rintro w3 A_3 o3 -; have hn3 := new_below hb2 o3; have a1_3 := a1_1.below hn3; have a2_3 := a2_1.below hn3; have hB_3 := below_more hB_1 hn3)
      | (refine ld_mc rfl rfl rfl A_3 ?_))
    go_at_call 16
    refine (interrupted_impl' HN.out _ _ ⟨x, y, rfl, a1_3, a2_3⟩).mono ?_
    rintro e w4 ⟨v4, rfl, ⟨ar, aa, rfl, hp1, hp2, hp3⟩, hb4⟩
    have A_4 := A_3.below hb4
    have a1_4 := a1_3.below hb4
    have a2_4 := a2_3.below hb4
    have hB_4 := below_more hB_3 hb4
    have b1_4 := hp1.sl
    have b2_4 := hp2.sl
    go_wp2_with (first
      | (refine al_mc rfl rfl ?_; intro w5 z5 hb5)
      | (refine st_mc rfl rfl rfl rfl z5 (one_own hp1) (one_own hp2) ?_; rintro w6 B_6 o6 -; have hn6 := new_below hb5 o6; have A_6 := A_4.below hn6; have a1_6 := a1_4.below hn6; have a2_6 := a2_4.below hn6; have b1_6 := b1_4.below hn6; have b2_6 := b2_4.below hn6; have hB_6 := below_more hB_4 hn6)
      | (refine ld_mc rfl rfl rfl A_6 ?_))
    go_at_call 17
    refine (interrupted_spec' HN.out _ _ ⟨x, y, rfl, a1_6, a2_6⟩).mono ?_
    rintro e w7 ⟨v7, rfl, ⟨br, ba, rfl, hq1, hq2, hq3⟩, hb7⟩
    have A_7 := A_6.below hb7
    have B_7 := B_6.below hb7
    have a1_7 := a1_6.below hb7
    have a2_7 := a2_6.below hb7
    have b1_7 := b1_6.below hb7
    have b2_7 := b2_6.below hb7
    have hB_7 := below_more hB_6 hb7
    have c1_7 := hq1.sl
    have c2_7 := hq2.sl
    go_wp2_with (first
      | (refine al_mc rfl rfl ?_; intro w8 z8 hb8)
      | (refine st_mc rfl rfl rfl rfl z8 (one_own hq1) (one_own hq2) ?_; rintro w9 C_9 o9 -; have hn9 := new_below hb8 o9; have hG : G3 w0 w1.heap.size w4.heap.size w7.heap.size x y ar aa br ba M N w9 := ⟨A_7.below hn9, B_7.below hn9, C_9, a1_7.below hn9, a2_7.below hn9, b1_7.below hn9, b2_7.below hn9, c1_7.below hn9, c2_7.below hn9, below_more hB_7 hn9⟩))
    clear a1_1 a2_1 A_3 a1_3 a2_3 A_4 a1_4 a2_4 b1_4 b2_4 A_6 B_6 a1_6 a2_6 b1_6 b2_6 A_7 B_7 a1_7 a2_7 b1_7 b2_7 c1_7 c2_7 hp1 hp2 hp3 hq1 hq2 hq3 z2 z5 z8 o3 o6 o9 hn3 hn6 hn9 hB_1 hB_3 hB_4 hB_6 hB_7 C_9 hm1 hb2 hb4 hb5 hb7 hb8
    refine region_known (by kernel_rfl) (by kernel_rfl) 0 (by decide) (by kernel_rfl) (fun _ W => G3 w0 w1.heap.size w4.heap.size w7.heap.size x y ar aa br ba M N W) [N.val ar aa, N.val br ba, .bool true, .bool false, .bool false, .int .i64 I, .int .i64 I, .bool false, .bool false, .bool false, M.val x y, .int .i64 M.pendIn, M.val x y, .int .i64 M.pendIn, .bool false, .bool false] (hG.below (drew_below (n := 1) rfl)) ?step ?done
    case step =>
      intro L ix o' A W hj hI hL hd
      have hin : ix < 16 := by
        by_cases hl : ix < 16
        · exact hl
        · simp [hl] at hj
      have hsz : A.tmps.size = 159 := hI.size
      have hg := hI.g
      rcases ix with _ | ix
      · obtain rfl := (Option.some.inj hj).symm
        have e0 : A.eval (.tmp 4) = .pointer (some ⟨w4.heap.size, 0, none⟩) := hI.old 4 (by kernel_rfl)
        exact at_op rfl rfl (wp_load_row _ _ rfl _ e0 _ _ _ _ hg.B.row Tryz.underlying30 rfl info_mc ⟨_, rfl, rfl, hg⟩)
      rcases ix with _ | ix
      · obtain rfl := (Option.some.inj hj).symm
        have e0 : A.eval (.tmp 6) = .pointer (some ⟨w7.heap.size, 0, none⟩) := hI.old 6 (by kernel_rfl)
        exact at_op rfl rfl (wp_load_row _ _ rfl _ e0 _ _ _ _ hg.C.row Tryz.underlying30 rfl info_mc ⟨_, rfl, rfl, hg⟩)
      rcases ix with _ | ix
      · obtain rfl := (Option.some.inj hj).symm
        have e0 : A.eval (.tmp 34) = N.val ar aa := hI.val hd 0 34 rfl rfl (by kernel_rfl)
        have e1 : A.eval (.tmp 35) = N.val br ba := hI.val hd 1 35 rfl rfl (by kernel_rfl)
        refine at_op rfl rfl (call_op rfl Tryz.func9 (by kernel_rfl) (by kernel_rfl) ?_)
        simp only [List.map_cons, List.map_nil, e0, e1]
        refine (likeMachine_same ar aa br ba N W hg.b1 hg.b2 hg.c1 hg.c2).mono ?_
        rintro e W1 ⟨rfl, hb⟩
        exact ⟨_, rfl, _, rfl, rfl, hg.below hb⟩
      rcases ix with _ | ix
      · obtain rfl := (Option.some.inj hj).symm
        have e0 : A.eval (.tmp 36) = .bool true := hI.val hd 2 36 rfl rfl (by kernel_rfl)
        refine at_op rfl rfl (val_op (v := .bool false) ?_ ⟨_, rfl, rfl, hg⟩)
        unfold execOp
        simp only [List.getElem_toArray, List.getElem_cons_zero, List.getElem_cons_succ, e0]
        simp [go_sem]
      rcases ix with _ | ix
      · obtain rfl := (Option.some.inj hj).symm
        have e0 : A.eval (.tmp 37) = .bool false := hI.val hd 3 37 rfl rfl (by kernel_rfl)
        exact at_op rfl rfl (move_op rfl ⟨_, rfl, e0, hg⟩)
      rcases ix with _ | ix
      · obtain rfl := (Option.some.inj hj).symm
        have hgv : A.tmps.getD 38 undef = .bool false := hI.val hd 4 38 rfl rfl (by kernel_rfl)
        have e0 : A.eval (.tmp 5) = .int .i64 I := hI.old 5 (by kernel_rfl)
        exact at_guard rfl rfl (j := 4) (k := 38) rfl (by omega) hgv (move_op rfl ⟨_, rfl, e0, hg⟩)
      rcases ix with _ | ix
      · obtain rfl := (Option.some.inj hj).symm
        have hgv : A.tmps.getD 38 undef = .bool false := hI.val hd 4 38 rfl rfl (by kernel_rfl)
        have e0 : A.eval (.tmp 7) = .int .i64 I := hI.old 7 (by kernel_rfl)
        exact at_guard rfl rfl (j := 4) (k := 38) rfl (by omega) hgv (move_op rfl ⟨_, rfl, e0, hg⟩)
      rcases ix with _ | ix
      · obtain rfl := (Option.some.inj hj).symm
        have hgv : A.tmps.getD 38 undef = .bool false := hI.val hd 4 38 rfl rfl (by kernel_rfl)
        have e0 : A.eval (.tmp 39) = .int .i64 I := hI.val hd 5 39 rfl rfl (by kernel_rfl)
        have e1 : A.eval (.tmp 40) = .int .i64 I := hI.val hd 6 40 rfl rfl (by kernel_rfl)
        exact at_guard rfl rfl (j := 4) (k := 38) rfl (by omega) hgv (bin_op rfl e0 e1 (fun w => by simp [go_sem]) ⟨_, rfl, rfl, hg⟩)
      rcases ix with _ | ix
      · obtain rfl := (Option.some.inj hj).symm
        have e0 : A.eval (.tmp 38) = .bool false := hI.val hd 4 38 rfl rfl (by kernel_rfl)
        have e1 : A.eval (.tmp 41) = .bool false := hI.val hd 7 41 rfl rfl (by kernel_rfl)
        exact at_op rfl rfl (pick_op rfl e0 ⟨_, rfl, e1, hg⟩)
      rcases ix with _ | ix
      · obtain rfl := (Option.some.inj hj).symm
        have e0 : A.eval (.tmp 42) = .bool false := hI.val hd 8 42 rfl rfl (by kernel_rfl)
        exact at_op rfl rfl (move_op rfl ⟨_, rfl, e0, hg⟩)
      rcases ix with _ | ix
      · obtain rfl := (Option.some.inj hj).symm
        have hgv : A.tmps.getD 43 undef = .bool false := hI.val hd 9 43 rfl rfl (by kernel_rfl)
        have e0 : A.eval (.tmp 3) = .pointer (some ⟨w1.heap.size, 0, none⟩) := hI.old 3 (by kernel_rfl)
        exact at_guard rfl rfl (j := 9) (k := 43) rfl (by omega) hgv (wp_load_row _ _ rfl _ e0 _ _ _ _ hg.A.row Tryz.underlying30 rfl info_mc ⟨_, rfl, rfl, hg⟩)
      rcases ix with _ | ix
      · obtain rfl := (Option.some.inj hj).symm
        have hgv : A.tmps.getD 43 undef = .bool false := hI.val hd 9 43 rfl rfl (by kernel_rfl)
        have e0 : A.eval (.tmp 44) = M.val x y := hI.val hd 10 44 rfl rfl (by kernel_rfl)
        refine at_guard rfl rfl (j := 9) (k := 43) rfl (by omega) hgv (call_op rfl Tryz.func18 (by kernel_rfl) (by kernel_rfl) ?_)
        simp only [List.map_cons, List.map_nil, e0]
        refine (pendingIn_impl _ M W ⟨x, y, rfl, hg.a1, hg.a2⟩).mono ?_
        rintro e W1 ⟨rfl, hb⟩
        exact ⟨_, rfl, _, rfl, rfl, hg.below hb⟩
      rcases ix with _ | ix
      · obtain rfl := (Option.some.inj hj).symm
        have hgv : A.tmps.getD 43 undef = .bool false := hI.val hd 9 43 rfl rfl (by kernel_rfl)
        have e0 : A.eval (.tmp 3) = .pointer (some ⟨w1.heap.size, 0, none⟩) := hI.old 3 (by kernel_rfl)
        exact at_guard rfl rfl (j := 9) (k := 43) rfl (by omega) hgv (wp_load_row _ _ rfl _ e0 _ _ _ _ hg.A.row Tryz.underlying30 rfl info_mc ⟨_, rfl, rfl, hg⟩)
      rcases ix with _ | ix
      · obtain rfl := (Option.some.inj hj).symm
        have hgv : A.tmps.getD 43 undef = .bool false := hI.val hd 9 43 rfl rfl (by kernel_rfl)
        have e0 : A.eval (.tmp 46) = M.val x y := hI.val hd 12 46 rfl rfl (by kernel_rfl)
        refine at_guard rfl rfl (j := 9) (k := 43) rfl (by omega) hgv (call_op rfl Tryz.func19 (by kernel_rfl) (by kernel_rfl) ?_)
        simp only [List.map_cons, List.map_nil, e0]
        refine (pendingIn_spec _ M W ⟨x, y, rfl, hg.a1, hg.a2⟩).mono ?_
        rintro e W1 ⟨rfl, hb⟩
        exact ⟨_, rfl, _, rfl, rfl, hg.below hb⟩
      rcases ix with _ | ix
      · obtain rfl := (Option.some.inj hj).symm
        have hgv : A.tmps.getD 43 undef = .bool false := hI.val hd 9 43 rfl rfl (by kernel_rfl)
        have e0 : A.eval (.tmp 45) = .int .i64 M.pendIn := hI.val hd 11 45 rfl rfl (by kernel_rfl)
        have e1 : A.eval (.tmp 47) = .int .i64 M.pendIn := hI.val hd 13 47 rfl rfl (by kernel_rfl)
        exact at_guard rfl rfl (j := 9) (k := 43) rfl (by omega) hgv (bin_op rfl e0 e1 (fun w => by simp [go_sem]) ⟨_, rfl, rfl, hg⟩)
      rcases ix with _ | ix
      · obtain rfl := (Option.some.inj hj).symm
        have e0 : A.eval (.tmp 43) = .bool false := hI.val hd 9 43 rfl rfl (by kernel_rfl)
        have e1 : A.eval (.tmp 48) = .bool false := hI.val hd 14 48 rfl rfl (by kernel_rfl)
        exact at_op rfl rfl (pick_op rfl e0 ⟨_, rfl, e1, hg⟩)
      omega
    case done =>
      intro A W hI
      have hg := hI.g
      have e49 : A.tmps.getD 49 undef = .bool false := hI.last 15 49 rfl
      have hA := hI.frame [34, 35, 36, 37, 38, 39, 40, 41, 42, 43, 44, 45, 46, 47, 48, 49] (by kernel_rfl)
      rw [hA]
      simp only [putAll, List.foldl_cons, List.foldl_nil, e49, Act.put, List.setIfInBounds_toArray, List.set_cons_zero, List.set_cons_succ]
      clear hA hI e49 hG
      have hB := hg.bel
      have hsB := hB.size
      rcases called_told HN.out with hI | ⟨hIr, hMe, hNe, hNp, hNh⟩
      all_goals
        first
          | (subst hI; go_wp2_with fail)
          | (have k1 := (cw hg.A).e; have k2 := (cw hg.B).e; have k3 := (cw hg.B).pc; have k4 := (cw hg.B).h; rw [hMe] at k1; rw [hNe] at k2; rw [hNp] at k3; rw [hNh] at k4; clear hMe hNe hNp hNh HN; go_wp2_with fail; clear k1 k2 k3 k4)
        go_at_call 20
        refine (Dice.roll_any a len cap _ _ (hc.below hB) hl).mono ?_
        rintro e v1 ⟨rfl, hv1, hdice⟩
        have hB1 := below_more hB hv1
        have hOld := Prg.old_dice hdice
        have hv1s := hv1.size
        clear hg hB
        go_wp2_with fail
        go_at_call 21
        refine (Prg.program_any _ hdice).mono ?_
        rintro e v2 ⟨vc, l, rfl, hoc, hl32, hl1, hall, hro⟩
        clear hdice
        go_wp2_with fail
        go_loopw [9] (fun v wr => ∃ l : List Int, Own v1.heap.size wr v l ∧ 1 ≤ l.length ∧ l.length ≤ 60 ∧ l.all bok = true ∧ Prg.Rolled W.heap.size a len cap v1 wr) (fun v _ => 60 - lenOf v)
        case atStart => exact ⟨l, hoc, hl1, by omega, hall, hro⟩
        case round =>
          clear hoc hl32 hl1 hall hro
          obtain ⟨l, hol, hl1, hl60, hall, hro⟩ := hrel
          obtain ⟨gl, cl, rfl, hgl1, hgl2, hgl3, hgl4⟩ := hol.block (by omega)
          unfold maxLen at hgl4
          by_cases h60 : l.length < 60
          · go_wp2_with (at_builtin; refine app rfl (.tmp 80) (.tmp 81) rfl v1.heap.size l [29] (hol.below ((Below.refl _ _).alloc (Nat.le_refl _) _)) (sl_lit _ _ [29] rfl (by simp [maxLen])) (by simp; omega) (by have := hro.1.size; simp; omega) ?_; intro v4 w4 ho4 hg4)
            go_roundw
            case rel => exact ⟨l ++ [29], ho4, by simp, by simp; omega, Prg.all_app hall (by simp [bok]), Prg.rolled_grown (Prg.rolled_alloc hro _) hOld hg4 (fun j hj => (hol.lt j hj).1)⟩
            case measure =>
              obtain ⟨_, _, rfl, _⟩ := ho4.shape
              simp [lenOf]
              omega
          · have h60' : l.length = 60 := by omega
            rw [h60'] at hol ⊢
            go_wp2_with fail
            go_loopw [10] (fun i wr => ∃ k : Nat, 16 ≤ k ∧ k ≤ 60 ∧ i = .int .i64 k ∧ ∃ l' : List Int, Own v1.heap.size wr (.slice (some ⟨gl, 0, none⟩) 60 cl) l' ∧ l'.length = 60 ∧ l'.all bok = true ∧ (∀ j : Nat, 16 ≤ j → j < k → l'.getD j 0 = 29) ∧ Prg.Rolled W.heap.size a len cap v1 wr) (fun i _ => 60 - (intOf i).toNat)
            case atStart => exact ⟨16, by omega, by omega, rfl, l, hol, h60', hall, fun j h1 h2 => by omega, hro⟩
            case round =>
              clear hol hall hro h60' h60 hl60 hl1
              obtain ⟨k, hk1, hk2, rfl, l', hol, hl60, hall, h29, hro⟩ := hrel
              by_cases hk : k < 60
              · have hcell := hol.cellAt (j := k) (by omega)
                have hfree := hol.free k
                have HO : Hid (Own v1.heap.size wr (.slice (some ⟨gl, 0, none⟩) 60 cl) l' ∧ l'.length = 60 ∧ l'.all bok = true ∧ (∀ j : Nat, 16 ≤ j → j < k → l'.getD j 0 = 29)) := show _ ∧ _ from ⟨hol, hl60, hall, h29⟩
                clear hol hl60 hall h29
                go_wp2
                go_roundw
                case rel =>
                  obtain ⟨hol, hl60, hall, h29⟩ := HO.out
                  exact ⟨k + 1, by omega, by omega, by go_num, l'.set k 29, (hol.store k 29).1, by simp [hl60], all_set hall rfl, set_29 hl60 h29 hk, Prg.rolled_grown hro hOld (hol.store k 29).2 (fun j hj => by have := Option.some.inj hj; omega)⟩
                case measure => simp [intOf]; omega
              · obtain rfl : k = 60 := by omega
                have hrom := rom_bytes hall (by omega) (by omega)
                have hro2 : romOf l' = l' ++ [chk l'] := by simp [romOf, hrom]
                have hnm : newMc (l' ++ [chk l']) = Mc.fresh (l' ++ [chk l']) := by simp [newMc, hrom]
                have hB2 := below_onto hB1 hro.1 (by omega)
                have hdi := hro.2
                have hwr := hro.1.size
                have hlp := hdi.lt
                have hback : ∀ k q : Int, 1 ≤ k ∧ k ≤ 7 → 0 ≤ q ∧ q < 16 → ∃ i B D O, (probe (l' ++ [chk l']) k q).called = (B, i) ∧ (0 ≤ i ∧ i ≤ 2) ∧ (probe (l' ++ [chk l']) k q).pendIn = i ∧ B.execd = (D, 4, O) ∧ D.pc = q ∧ D.e = true ∧ D.sp = 192 ∧ D.fl < k :=
                  fun k q hk hq => away_back hrom (by simp; omega) (fun j h1 h2 => by
                    have := h29 j h1 h2
                    rw [List.getD_eq_getElem?_getD] at this ⊢
                    rw [List.getElem?_append_left (by omega)]
                    exact this) hk hq
                have HB : Hid (∀ k q : Int, 1 ≤ k ∧ k ≤ 7 → 0 ≤ q ∧ q < 16 → ∃ i B D O, (probe (l' ++ [chk l']) k q).called = (B, i) ∧ (0 ≤ i ∧ i ≤ 2) ∧ (probe (l' ++ [chk l']) k q).pendIn = i ∧ B.execd = (D, 4, O) ∧ D.pc = q ∧ D.e = true ∧ D.sp = 192 ∧ D.fl < k) := hback
                have HR : Hid (Prg.Rolled W.heap.size a len cap v1 wr) := hro
                have HL : Hid (l'.length = 60) := hl60
                clear hback h29 hk hk1 hk2 hro hl60
                go_wp2_with fail
                go_at_call 22
                refine (romOf_spec _ l' _ hol.sl (by have := HL.out; omega)).mono ?_
                rw [hro2]
                rintro e v3 ⟨vr3, rfl, ho3, hb3⟩
                have hB3 := below_more hB2 hb3
                have hd3 := hdi.below hb3
                have s3 := hb3.size
                clear hol hdi hB2 HR
                go_wp2_with fail
                go_at_call 23
                refine (newMachine_impl vr3 (l' ++ [chk l']) _ ho3.sl).mono ?_
                rw [hnm, hrom]
                rintro e v4 ⟨vv4, rfl, ⟨er, ea, rfl, he1, he2, he3⟩, hb4⟩
                have hB4 := below_more hB3 hb4
                have hd4 := hd3.below hb4
                have s4 := hb4.size
                have hel1 := he1.lt
                have hel2 := he2.lt
                clear ho3 hB3 hd3 hnm hro2 hrom hall
                generalize l' ++ [chk l'] = rom at HB he1 he2 hel1 hel2 ⊢
                go_wp2_with (first
                  | (refine al_mc rfl rfl ?_; intro v5 z5 hb5; have l5 := z5.lt)
                  | (refine st_mc rfl rfl rfl rfl z5 (one_own he1) (one_own he2) ?_; rintro v6 E6 o6 -; have hn6 := new_below hb5 o6; have hB6 := below_more hB4 hn6; have hd6 := hd4.below hn6; have x6 := he1.below hn6; have y6 := he2.below hn6; have s6 := hn6.size)
                  | (refine st_yes (m' := { Mc.fresh rom with e := true }) rfl rfl rfl rfl E6 rfl rfl ?_; rintro v7 E7 o7 -; have hB7 := below_onto hB6 o7 (by omega); have hd7 := hd6.onto o7 (by omega) (fun h0 x hx e => by have := hc.lt h0 x hx; omega); have x7 := x6.onto o7 (fun e => by have := hel1 _ e; omega); have y7 := y6.onto o7 (fun e => by have := hel2 _ e; omega); have s7 := o7.size))
                clear z5 E6 x6 y6 hB6 hd6 hB4 hd4 he1 he2 hb5 o6 o7 hn6
                go_at_call 24
                refine (Dice.below_any _ a len cap _ _ hd7 (by omega)).mono ?_
                rintro e v8 ⟨k, rfl, hk, o8, hd8⟩
                have E8 := E7.onto o8 (by omega)
                have x8 := x7.onto o8 (fun e => by have := hel1 _ e; omega)
                have y8 := y7.onto o8 (fun e => by have := hel2 _ e; omega)
                have hB8 := below_onto hB7 o8 (by omega)
                have s8 := o8.size
                clear E7 x7 y7 hB7 hd7 o8
                go_wp2_with (first
                  | (refine st_num (m' := { Mc.fresh rom with e := true, ms := 1 + (k : Int) }) rfl rfl rfl rfl E8 rfl rfl ?_; rintro v9 E9 o9 -; have hB9 := below_onto hB8 o9 (by omega); have hd9 := hd8.onto o9 (by omega) (fun h0 x hx e => by have := hc.lt h0 x hx; omega); have x9 := x8.onto o9 (fun e => by have := hel1 _ e; omega); have y9 := y8.onto o9 (fun e => by have := hel2 _ e; omega); have s9 := o9.size; have km : v9.cell? ⟨v4.heap.size, 12, none⟩ = some (.int .i64 (1 + (k : Int))) := (cw E9).ms)
                  | (refine st_num (m' := { Mc.fresh rom with e := true, ms := 1 + (k : Int), fl := 1 + (k : Int) }) rfl rfl rfl rfl E9 rfl rfl ?_; rintro v10 E10 o10 -; have hB10 := below_onto hB9 o10 (by omega); have hd10 := hd9.onto o10 (by omega) (fun h0 x hx e => by have := hc.lt h0 x hx; omega); have x10 := x9.onto o10 (fun e => by have := hel1 _ e; omega); have y10 := y9.onto o10 (fun e => by have := hel2 _ e; omega); have s10 := o10.size))
                clear E8 x8 y8 hB8 hd8 E9 x9 y9 hB9 hd9 km o9 o10
                go_at_call 24
                refine (Dice.below_any _ a len cap _ _ hd10 (by omega)).mono ?_
                rintro e v11 ⟨q, rfl, hq, o11, hd11⟩
                have E11 := E10.onto o11 (by omega)
                have x11 := x10.onto o11 (fun e => by have := hel1 _ e; omega)
                have y11 := y10.onto o11 (fun e => by have := hel2 _ e; omega)
                have hB11 := below_onto hB10 o11 (by omega)
                have s11 := o11.size
                clear E10 x10 y10 hB10 hd10 hd11 o11
                obtain ⟨i, B, D, O, hcal, hi, hpi, hexe, hDp, hDe, hDs, hDf⟩ := HB.out (1 + (k : Int)) (q : Int) (by omega) (by omega)
                have HC : Hid ((probe rom (1 + (k : Int)) (q : Int)).called = (B, i)) := hcal
                have HX : Hid (B.execd = (D, 4, O)) := hexe
                have HPI : Hid ((probe rom (1 + (k : Int)) (q : Int)).pendIn = i) := hpi
                clear hcal hexe hpi
                go_wp2_with (first
                  | (refine st_num (m' := probe rom (1 + (k : Int)) (q : Int)) rfl rfl rfl rfl E11 rfl rfl ?_; rintro v12 E12 o12 -; have hB12 := below_onto hB11 o12 (by omega); have x12 := (x11.onto o12 (fun e => by have := hel1 _ e; omega)).sl; have y12 := (y11.onto o12 (fun e => by have := hel2 _ e; omega)).sl; have s12 := o12.size; clear E11 x11 y11 hB11 o12)
                  | (refine ld_mc rfl rfl rfl E12 ?_))
                go_at_call 16
                refine (interrupted_impl' HC.out _ _ ⟨er, ea, rfl, x12, y12⟩).mono ?_
                rintro e v13 ⟨vv13, rfl, ⟨fr, fa, rfl, hf1, hf2, hf3⟩, hb13⟩
                have E13 := E12.below hb13
                have x13 := x12.below hb13
                have y13 := y12.below hb13
                have hB13 := below_more hB12 hb13
                clear E12 x12 y12 hB12
                go_wp2_with (first
                  | (refine al_mc rfl rfl ?_; intro v14 z14 hb14)
                  | (refine st_mc rfl rfl rfl rfl z14 (one_own hf1) (one_own hf2) ?_; rintro v15 F15 o15 -; have hn15 := new_below hb14 o15; have E15 := E13.below hn15; have x15 := x13.below hn15; have y15 := y13.below hn15; have f15 := hf1.sl.below hn15; have g15 := hf2.sl.below hn15; have hB15 := below_more hB13 hn15; clear E13 x13 y13 hB13 z14 o15 hn15 hb14 hf1 hf2 hf3)
                  | (refine ld_mc rfl rfl rfl F15 ?_))
                go_at_call 7
                refine (executed_impl' HX.out _ _ ⟨fr, fa, rfl, f15, g15⟩ (ho.below hB15)).mono ?_
                rintro e v16 ⟨vv16, rfl, ⟨dr, da, rfl, hd1, hd2, hd3⟩, hb16⟩
                have E16 := E15.below hb16
                have x16 := x15.below hb16
                have y16 := y15.below hb16
                have hB16 := below_more hB15 hb16
                clear E15 x15 y15 f15 g15 hB15 F15
                go_wp2_with (first
                  | (refine al_mc rfl rfl ?_; intro v17 z17 hb17)
                  | (refine st_mc rfl rfl rfl rfl z17 (one_own hd1) (one_own hd2) ?_; rintro v18 D18 o18 -; have hn18 := new_below hb17 o18; have E18 := E16.below hn18; have x18 := x16.below hn18; have y18 := y16.below hn18; have hB18 := below_more hB16 hn18; clear E16 x16 y16 hB16 z17 o18 hn18 hb17 hd1 hd2 hd3)
                  | (refine ld_mcg rfl rfl rfl E18 ?_))
                go_at_call 18
                refine (pendingIn_impl _ (probe rom (1 + (k : Int)) (q : Int)) _ ⟨er, ea, rfl, x18, y18⟩).mono ?_
                rw [HPI.out]
                rintro e v19 ⟨rfl, hb19⟩
                have E19 := E18.below hb19
                have D19 := D18.below hb19
                have hB19 := below_more hB18 hb19
                have k1 := (cw D19).pc
                have k2 : v19.cell? ⟨v4.heap.size, 4, none⟩ = some (.int .i64 (q : Int)) := (cw E19).pc
                have k3 := (cw D19).e
                have k4 := (cw D19).sp
                have k5 : v19.cell? ⟨v4.heap.size, 5, none⟩ = some (.int .i64 192) := (cw E19).sp
                have k6 := (cw D19).fl
                have k7 : v19.cell? ⟨v4.heap.size, 11, none⟩ = some (.int .i64 (1 + (k : Int))) := (cw E19).fl
                rw [hDp] at k1
                rw [hDe] at k3
                rw [hDs] at k4
                clear E18 D18 x18 y18 hB18 E19 D19 hDp hDe hDs
                go_wp2
                go_ret
                exact ⟨rfl, hB19⟩
  · have hs : decide ((4096 : Int) < (len : Int)) = true := by simp; omega
    go_enter Tryz.func4, Tryz.ntmps4
    go_wp2_with (go_at_call 5; refine (big_m _ _ _ _).mono ?_; rintro e w0 ⟨rfl, rfl⟩; rw [hs])
    go_ret
    exact ⟨rfl, Below.refl _ _⟩
end Go.Proofs.YtocofjimkfffeaaGreatDoor.Mem
