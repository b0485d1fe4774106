/-
  FnMemory: what was written into Ram stands there, and nothing else is otherwise; a right machine stays right.
-/
import Derived.Test.YtogmhpjelmlonaaMcMem0
import Derived.Test.YtogmhpjelmlonaaMcSame
import Derived.Test.YtogmhpjelmlonaaMcWriteJ
import Derived.Test.YtogmhpjelmlonaaMcWrite
import Derived.Test.YtogmhpjelmlonaaMcReadI
import Derived.Test.YtogmhpjelmlonaaMcLaw
import Derived.Test.YtogmhpjelmlonaaPrg
namespace Go.Proofs.Ytogmhpjelmlonaa.Mem
open Go.ChangeShapes Go.WideShapes Go.RowKit Base Draw Slc Num Rw Tmr Srl Rom RomOf Reg
set_option linter.unusedVariables false
set_option linter.unusedSimpArgs false

set_option maxRecDepth 20000 in
set_option maxHeartbeats 4000000 in
theorem memory_any (a : Option Addr) (len cap : Nat) (w : World) (hc : CodeAt w a len) :
    Calls Try.prog 3 #[.slice a len cap] w fun e w' => e = .returned (.bool true) ∧ Below w.heap.size w w' := by
  by_cases hl : len ≤ 4096
  · have hs : decide ((4096 : Int) < (len : Int)) = false := by simp; omega
    go_enter Try.func3, Try.ntmps3
    go_wp2_with (go_at_call 8; refine (big_m _ _ _ _).mono ?_; rintro e w0 ⟨rfl, rfl⟩; rw [hs])
    go_at_call 9
    refine (drawWrittenAt_any a len cap _ hc hl).mono ?_
    rintro e w1 ⟨x, y, M, z, n, rfl, hm1, hB_1⟩
    have a1_1 := hm1.s1
    have a2_1 := hm1.s2
    go_wp2_with (first
      | (refine al_mc rfl rfl ?_; intro w2 zt2 hb2)
      | (refine st_mc rfl rfl rfl rfl zt2 (one_sl hm1.s1) (one_sl hm1.s2) ?_; rintro w3 A_3 o3 -; have a1_3 := sl_new a1_1 hb2 o3; have a2_3 := sl_new a2_1 hb2 o3; have hB_3 := bel_new hB_1 hb2 o3)
      | (refine ld_mc rfl rfl rfl A_3 ?_))
    go_at_call 10
    refine (writtenAt_impl _ M z n _ ⟨x, y, rfl, a1_3, a2_3⟩).mono ?_
    have hck := clock_same M z n
    generalize hN : M.writtenAt z n = N at hck
    have HN : Hid (M.writtenAt z n = N) := hN
    have HC : Hid (N.k = M.k ∨ N.rom.length = 0) := hck
    clear hN hck
    rintro e w4 ⟨v4, rfl, ⟨ar, aa, rfl, hp1, hp2, hp3⟩, hbe4⟩
    have A_4 := A_3.below hbe4
    have a1_4 := a1_3.below hbe4
    have a2_4 := a2_3.below hbe4
    have hB_4 := hB_3.trans (hbe4.mono hB_3.size)
    have b1_4 := hp1.sl
    have b2_4 := hp2.sl
    go_wp2_with (first
      | (refine al_mc rfl rfl ?_; intro w5 zt5 hb5)
      | (refine st_mc rfl rfl rfl rfl zt5 (one_own hp1) (one_own hp2) ?_; rintro w6 B_6 o6 -; have A_6 := row_new A_4 hb5 o6; have a1_6 := sl_new a1_4 hb5 o6; have a2_6 := sl_new a2_4 hb5 o6; have b1_6 := sl_new b1_4 hb5 o6; have b2_6 := sl_new b2_4 hb5 o6; have hB_6 := bel_new hB_4 hb5 o6))
    go_at_call 11
    refine (drawReadAt_any a len cap _ (hc.below hB_6) hl).mono ?_
    rintro e w7 ⟨x2, y2, M2, z2, rfl, hm7, hbe7⟩
    have A_7 := A_6.below hbe7
    have B_7 := B_6.below hbe7
    have a1_7 := a1_6.below hbe7
    have a2_7 := a2_6.below hbe7
    have b1_7 := b1_6.below hbe7
    have b2_7 := b2_6.below hbe7
    have hB_7 := hB_6.trans (hbe7.mono hB_6.size)
    have c1_7 := hm7.s1
    have c2_7 := hm7.s2
    go_wp2_with (first
      | (refine al_mc rfl rfl ?_; intro w8 zt8 hb8)
      | (refine st_mc rfl rfl rfl rfl zt8 (one_sl hm7.s1) (one_sl hm7.s2) ?_; rintro w9 C_9 o9 -; have A_9 := row_new A_7 hb8 o9; have B_9 := row_new B_7 hb8 o9; have a1_9 := sl_new a1_7 hb8 o9; have a2_9 := sl_new a2_7 hb8 o9; have b1_9 := sl_new b1_7 hb8 o9; have b2_9 := sl_new b2_7 hb8 o9; have c1_9 := sl_new c1_7 hb8 o9; have c2_9 := sl_new c2_7 hb8 o9; have hB_9 := bel_new hB_7 hb8 o9))
    go_at_call 12
    refine (drawMachineOk_any a len cap _ (hc.below hB_9) hl).mono ?_
    rintro e w10 ⟨x3, y3, M3, rfl, hm10, hbe10⟩
    have A_10 := A_9.below hbe10
    have B_10 := B_9.below hbe10
    have C_10 := C_9.below hbe10
    have a1_10 := a1_9.below hbe10
    have a2_10 := a2_9.below hbe10
    have b1_10 := b1_9.below hbe10
    have b2_10 := b2_9.below hbe10
    have c1_10 := c1_9.below hbe10
    have c2_10 := c2_9.below hbe10
    have hB_10 := hB_9.trans (hbe10.mono hB_9.size)
    have d1_10 := hm10.s1
    have d2_10 := hm10.s2
    go_wp2_with (first
      | (refine al_mc rfl rfl ?_; intro w11 zt11 hb11)
      | (refine st_mc rfl rfl rfl rfl zt11 (one_sl hm10.s1) (one_sl hm10.s2) ?_; rintro w12 D_12 o12 -; have A_12 := row_new A_10 hb11 o12; have B_12 := row_new B_10 hb11 o12; have C_12 := row_new C_10 hb11 o12; have a1_12 := sl_new a1_10 hb11 o12; have a2_12 := sl_new a2_10 hb11 o12; have b1_12 := sl_new b1_10 hb11 o12; have b2_12 := sl_new b2_10 hb11 o12; have c1_12 := sl_new c1_10 hb11 o12; have c2_12 := sl_new c2_10 hb11 o12; have d1_12 := sl_new d1_10 hb11 o12; have d2_12 := sl_new d2_10 hb11 o12; have hB_12 := bel_new hB_10 hb11 o12))
    have hG : Gl w0 w1.heap.size w4.heap.size w7.heap.size w10.heap.size x y ar aa x2 y2 x3 y3 M N M2 M3 w12 := ⟨A_12, B_12, C_12, D_12, a1_12, a2_12, b1_12, b2_12, c1_12, c2_12, d1_12, d2_12, hB_12⟩
    clear a1_1 a2_1 A_3 a1_3 a2_3 A_4 a1_4 a2_4 b1_4 b2_4 A_6 B_6 a1_6 a2_6 b1_6 b2_6 A_7 B_7 a1_7 a2_7 b1_7 b2_7 c1_7 c2_7 A_9 B_9 C_9 a1_9 a2_9 b1_9 b2_9 c1_9 c2_9 A_10 B_10 C_10 a1_10 a2_10 b1_10 b2_10 c1_10 c2_10 d1_10 d2_10 A_12 B_12 C_12 D_12 a1_12 a2_12 b1_12 b2_12 c1_12 c2_12 d1_12 d2_12 hp1 hp2 hp3 zt2 zt5 zt8 zt11 o3 o6 o9 o12 hbe4 hbe7 hbe10
    refine region_by (by kernel_rfl) (by kernel_rfl) (fun W => Gl w0 w1.heap.size w4.heap.size w7.heap.size w10.heap.size x y ar aa x2 y2 x3 y3 M N M2 M3 W)
      (kinds [KIs (N.val ar aa), KIs (M.val x y), KIs (.int .i64 z), KIs (.int .i64 n), KMs N, KIs (.bool true), KIs (.bool false), KIs (.bool false), KIs (M2.val x2 y2), KIs (.int .i64 z2), KIs (.int .i64 (M2.readAt z2)), KIs (M2.val x2 y2), KIs (.int .i64 z2), KIs (.int .i64 (M2.readAt z2)), KIs (.bool false), KIs (.bool false), KIs (.bool false), KIs (M3.val x3 y3), KIs (.bool M3.ok), KIs (M3.val x3 y3), KIs (.bool M3.ok), KIs (.bool false), KIs (.bool false)])
      (Rel fun _ => False) (by kernel_rfl) (kinds_mono ?mono) (hG.below (drew_below (n := 1) rfl)) ?step ?done
    case mono =>
      intro K hK
      simp only [List.mem_cons, List.not_mem_nil, or_false] at hK
      rcases hK with rfl | rfl | rfl | rfl | rfl | rfl | rfl | rfl | rfl | rfl | rfl | rfl | rfl | rfl | rfl | rfl | rfl | rfl | rfl | rfl | rfl | rfl | rfl
      all_goals first | exact bears_is _ _ | exact bears_ms _
    case step =>
      intro L ix o A W hi hI hL hd
      have hin : ix < 23 := by
        by_cases hl : ix < 23
        · exact hl
        · simp [hl] at hi
      have hsz : A.tmps.size = 122 := hI.size
      have hS := hI.g
      rcases ix with _ | ix
      · obtain rfl := (Option.some.inj hi).symm
        have e : A.eval (.tmp 6) = .pointer (some ⟨w4.heap.size, 0, none⟩) := hI.old 6 (by kernel_rfl)
        exact at_op rfl rfl (wp_load_row _ _ rfl _ e _ _ _ _ hS.B.row Try.underlying30 rfl info_mc ⟨_, rfl, rfl, hS, Rel.refl _ _⟩)
      rcases ix with _ | ix
      · obtain rfl := (Option.some.inj hi).symm
        have e : A.eval (.tmp 3) = .pointer (some ⟨w1.heap.size, 0, none⟩) := hI.old 3 (by kernel_rfl)
        exact at_op rfl rfl (wp_load_row _ _ rfl _ e _ _ _ _ hS.A.row Try.underlying30 rfl info_mc ⟨_, rfl, rfl, hS, Rel.refl _ _⟩)
      rcases ix with _ | ix
      · obtain rfl := (Option.some.inj hi).symm
        have e : A.eval (.tmp 4) = .int .i64 z := hI.old 4 (by kernel_rfl)
        exact at_op rfl rfl (move_op rfl ⟨_, rfl, e, hS, Rel.refl _ _⟩)
      rcases ix with _ | ix
      · obtain rfl := (Option.some.inj hi).symm
        have e : A.eval (.tmp 5) = .int .i64 n := hI.old 5 (by kernel_rfl)
        exact at_op rfl rfl (move_op rfl ⟨_, rfl, e, hS, Rel.refl _ _⟩)
      rcases ix with _ | ix
      · obtain rfl := (Option.some.inj hi).symm
        have e0 : A.eval (.tmp 40) = M.val x y := hI.get hd 1 40 rfl (by kernel_rfl)
        have e1 : A.eval (.tmp 41) = .int .i64 z := hI.get hd 2 41 rfl (by kernel_rfl)
        have e2 : A.eval (.tmp 42) = .int .i64 n := hI.get hd 3 42 rfl (by kernel_rfl)
        refine at_op rfl rfl (call_op rfl Try.func14 (by kernel_rfl) (by kernel_rfl) ?_)
        simp only [List.map_cons, List.map_nil, e0, e1, e2]
        refine (writtenAt_spec _ M z n W ⟨x, y, rfl, hS.a1, hS.a2⟩).mono ?_
        rw [HN.out]; rintro e w20 ⟨v20, rfl, ho20, hb20⟩
        exact ⟨_, rfl, _, rfl, ho20.sl, hS.below hb20, Rel.below hb20⟩
      rcases ix with _ | ix
      · obtain rfl := (Option.some.inj hi).symm
        have e0 : A.eval (.tmp 39) = N.val ar aa := hI.get hd 0 39 rfl (by kernel_rfl)
        obtain ⟨pr, pa, eq1, hq1, hq2⟩ : KMs N (A.eval (.tmp 43)) W := hI.get hd 4 43 rfl (by kernel_rfl)
        have e1 : A.eval (.tmp 43) = N.val pr pa := eq1
        refine at_op rfl rfl (call_op rfl Try.func13 (by kernel_rfl) (by kernel_rfl) ?_)
        simp only [List.map_cons, List.map_nil, e0, e1]
        refine (likeMachine_same ar aa pr pa N W hS.b1 hS.b2 hq1 hq2).mono ?_
        rintro e w20 ⟨rfl, hb20⟩
        exact ⟨_, rfl, _, rfl, rfl, hS.below hb20, Rel.below hb20⟩
      rcases ix with _ | ix
      · obtain rfl := (Option.some.inj hi).symm
        have e : A.eval (.tmp 44) = .bool true := hI.get hd 5 44 rfl (by kernel_rfl)
        refine at_op rfl rfl (val_op (v := .bool false) ?_ ⟨_, rfl, rfl, hS, Rel.refl _ _⟩)
        unfold execOp
        simp only [List.getElem_toArray, List.getElem_cons_zero, List.getElem_cons_succ, e]
        simp [go_sem]
      rcases ix with _ | ix
      · obtain rfl := (Option.some.inj hi).symm
        have e : A.eval (.tmp 45) = .bool false := hI.get hd 6 45 rfl (by kernel_rfl)
        exact at_op rfl rfl (move_op rfl ⟨_, rfl, e, hS, Rel.refl _ _⟩)
      rcases ix with _ | ix
      · obtain rfl := (Option.some.inj hi).symm
        have hg : A.tmps.getD 46 undef = .bool false := hI.get hd 7 46 rfl (by kernel_rfl)
        have e : A.eval (.tmp 7) = .pointer (some ⟨w7.heap.size, 0, none⟩) := hI.old 7 (by kernel_rfl)
        exact at_guard rfl rfl (j := 7) (k := 46) rfl (by omega) hg (wp_load_row _ _ rfl _ e _ _ _ _ hS.C.row Try.underlying30 rfl info_mc ⟨_, rfl, rfl, hS, Rel.refl _ _⟩)
      rcases ix with _ | ix
      · obtain rfl := (Option.some.inj hi).symm
        have hg : A.tmps.getD 46 undef = .bool false := hI.get hd 7 46 rfl (by kernel_rfl)
        have e : A.eval (.tmp 8) = .int .i64 z2 := hI.old 8 (by kernel_rfl)
        exact at_guard rfl rfl (j := 7) (k := 46) rfl (by omega) hg (move_op rfl ⟨_, rfl, e, hS, Rel.refl _ _⟩)
      rcases ix with _ | ix
      · obtain rfl := (Option.some.inj hi).symm
        have hg : A.tmps.getD 46 undef = .bool false := hI.get hd 7 46 rfl (by kernel_rfl)
        have e0 : A.eval (.tmp 47) = M2.val x2 y2 := hI.get hd 8 47 rfl (by kernel_rfl)
        have e1 : A.eval (.tmp 48) = .int .i64 z2 := hI.get hd 9 48 rfl (by kernel_rfl)
        refine at_guard rfl rfl (j := 7) (k := 46) rfl (by omega) hg (call_op rfl Try.func15 (by kernel_rfl) (by kernel_rfl) ?_)
        simp only [List.map_cons, List.map_nil, e0, e1]
        refine (readAt_impl _ M2 z2 W ⟨x2, y2, rfl, hS.c1, hS.c2⟩).mono ?_
        rintro e w20 ⟨rfl, hb20⟩
        exact ⟨_, rfl, _, rfl, rfl, hS.below hb20, Rel.below hb20⟩
      rcases ix with _ | ix
      · obtain rfl := (Option.some.inj hi).symm
        have hg : A.tmps.getD 46 undef = .bool false := hI.get hd 7 46 rfl (by kernel_rfl)
        have e : A.eval (.tmp 7) = .pointer (some ⟨w7.heap.size, 0, none⟩) := hI.old 7 (by kernel_rfl)
        exact at_guard rfl rfl (j := 7) (k := 46) rfl (by omega) hg (wp_load_row _ _ rfl _ e _ _ _ _ hS.C.row Try.underlying30 rfl info_mc ⟨_, rfl, rfl, hS, Rel.refl _ _⟩)
      rcases ix with _ | ix
      · obtain rfl := (Option.some.inj hi).symm
        have hg : A.tmps.getD 46 undef = .bool false := hI.get hd 7 46 rfl (by kernel_rfl)
        have e : A.eval (.tmp 8) = .int .i64 z2 := hI.old 8 (by kernel_rfl)
        exact at_guard rfl rfl (j := 7) (k := 46) rfl (by omega) hg (move_op rfl ⟨_, rfl, e, hS, Rel.refl _ _⟩)
      rcases ix with _ | ix
      · obtain rfl := (Option.some.inj hi).symm
        have hg : A.tmps.getD 46 undef = .bool false := hI.get hd 7 46 rfl (by kernel_rfl)
        have e0 : A.eval (.tmp 50) = M2.val x2 y2 := hI.get hd 11 50 rfl (by kernel_rfl)
        have e1 : A.eval (.tmp 51) = .int .i64 z2 := hI.get hd 12 51 rfl (by kernel_rfl)
        refine at_guard rfl rfl (j := 7) (k := 46) rfl (by omega) hg (call_op rfl Try.func16 (by kernel_rfl) (by kernel_rfl) ?_)
        simp only [List.map_cons, List.map_nil, e0, e1]
        refine (readAt_spec _ M2 z2 W ⟨x2, y2, rfl, hS.c1, hS.c2⟩).mono ?_
        rintro e w20 ⟨rfl, hb20⟩
        exact ⟨_, rfl, _, rfl, rfl, hS.below hb20, Rel.below hb20⟩
      rcases ix with _ | ix
      · obtain rfl := (Option.some.inj hi).symm
        have hg : A.tmps.getD 46 undef = .bool false := hI.get hd 7 46 rfl (by kernel_rfl)
        have e1 : A.eval (.tmp 49) = .int .i64 (M2.readAt z2) := hI.get hd 10 49 rfl (by kernel_rfl)
        have e2 : A.eval (.tmp 52) = .int .i64 (M2.readAt z2) := hI.get hd 13 52 rfl (by kernel_rfl)
        exact at_guard rfl rfl (j := 7) (k := 46) rfl (by omega) hg (bin_op rfl e1 e2 (fun w => by simp [go_sem]) ⟨_, rfl, rfl, hS, Rel.refl _ _⟩)
      rcases ix with _ | ix
      · obtain rfl := (Option.some.inj hi).symm
        have e1 : A.eval (.tmp 46) = .bool false := hI.get hd 7 46 rfl (by kernel_rfl)
        have e3 : A.eval (.tmp 53) = .bool false := hI.get hd 14 53 rfl (by kernel_rfl)
        exact at_op rfl rfl (pick_op rfl e1 ⟨_, rfl, e3, hS, Rel.refl _ _⟩)
      rcases ix with _ | ix
      · obtain rfl := (Option.some.inj hi).symm
        have e : A.eval (.tmp 54) = .bool false := hI.get hd 15 54 rfl (by kernel_rfl)
        exact at_op rfl rfl (move_op rfl ⟨_, rfl, e, hS, Rel.refl _ _⟩)
      rcases ix with _ | ix
      · obtain rfl := (Option.some.inj hi).symm
        have hg : A.tmps.getD 55 undef = .bool false := hI.get hd 16 55 rfl (by kernel_rfl)
        have e : A.eval (.tmp 9) = .pointer (some ⟨w10.heap.size, 0, none⟩) := hI.old 9 (by kernel_rfl)
        exact at_guard rfl rfl (j := 16) (k := 55) rfl (by omega) hg (wp_load_row _ _ rfl _ e _ _ _ _ hS.D.row Try.underlying30 rfl info_mc ⟨_, rfl, rfl, hS, Rel.refl _ _⟩)
      rcases ix with _ | ix
      · obtain rfl := (Option.some.inj hi).symm
        have hg : A.tmps.getD 55 undef = .bool false := hI.get hd 16 55 rfl (by kernel_rfl)
        have e0 : A.eval (.tmp 56) = M3.val x3 y3 := hI.get hd 17 56 rfl (by kernel_rfl)
        refine at_guard rfl rfl (j := 16) (k := 55) rfl (by omega) hg (call_op rfl Try.func17 (by kernel_rfl) (by kernel_rfl) ?_)
        simp only [List.map_cons, List.map_nil, e0]
        refine (machineOk_impl _ M3 W ⟨x3, y3, rfl, hS.d1, hS.d2⟩).mono ?_
        rintro e w20 ⟨rfl, hb20⟩
        exact ⟨_, rfl, _, rfl, rfl, hS.below hb20, Rel.below hb20⟩
      rcases ix with _ | ix
      · obtain rfl := (Option.some.inj hi).symm
        have hg : A.tmps.getD 55 undef = .bool false := hI.get hd 16 55 rfl (by kernel_rfl)
        have e : A.eval (.tmp 9) = .pointer (some ⟨w10.heap.size, 0, none⟩) := hI.old 9 (by kernel_rfl)
        exact at_guard rfl rfl (j := 16) (k := 55) rfl (by omega) hg (wp_load_row _ _ rfl _ e _ _ _ _ hS.D.row Try.underlying30 rfl info_mc ⟨_, rfl, rfl, hS, Rel.refl _ _⟩)
      rcases ix with _ | ix
      · obtain rfl := (Option.some.inj hi).symm
        have hg : A.tmps.getD 55 undef = .bool false := hI.get hd 16 55 rfl (by kernel_rfl)
        have e0 : A.eval (.tmp 58) = M3.val x3 y3 := hI.get hd 19 58 rfl (by kernel_rfl)
        refine at_guard rfl rfl (j := 16) (k := 55) rfl (by omega) hg (call_op rfl Try.func18 (by kernel_rfl) (by kernel_rfl) ?_)
        simp only [List.map_cons, List.map_nil, e0]
        refine (machineOk_spec _ M3 W ⟨x3, y3, rfl, hS.d1, hS.d2⟩).mono ?_
        rintro e w20 ⟨rfl, hb20⟩
        exact ⟨_, rfl, _, rfl, rfl, hS.below hb20, Rel.below hb20⟩
      rcases ix with _ | ix
      · obtain rfl := (Option.some.inj hi).symm
        have hg : A.tmps.getD 55 undef = .bool false := hI.get hd 16 55 rfl (by kernel_rfl)
        have e1 : A.eval (.tmp 57) = .bool M3.ok := hI.get hd 18 57 rfl (by kernel_rfl)
        have e2 : A.eval (.tmp 59) = .bool M3.ok := hI.get hd 20 59 rfl (by kernel_rfl)
        exact at_guard rfl rfl (j := 16) (k := 55) rfl (by omega) hg (bin_op rfl e1 e2 (fun w => by simp [go_sem]) ⟨_, rfl, rfl, hS, Rel.refl _ _⟩)
      rcases ix with _ | ix
      · obtain rfl := (Option.some.inj hi).symm
        have e1 : A.eval (.tmp 55) = .bool false := hI.get hd 16 55 rfl (by kernel_rfl)
        have e3 : A.eval (.tmp 60) = .bool false := hI.get hd 21 60 rfl (by kernel_rfl)
        exact at_op rfl rfl (pick_op rfl e1 ⟨_, rfl, e3, hS, Rel.refl _ _⟩)
      omega
    case done =>
      intro A W hI
      have hS := hI.g
      have e61 : A.tmps.getD 61 undef = .bool false := hI.slot 22 61 rfl rfl
      have hA := hI.frame [39, 40, 41, 42, 43, 44, 45, 46, 47, 48, 49, 50, 51, 52, 53, 54, 55, 56, 57, 58, 59, 60, 61] (by kernel_rfl)
      rw [hA]
      simp only [putAll, List.foldl_cons, List.foldl_nil, e61]
      clear hA hI e61
      have hS0 := hS.bel.size
      simp only [Act.put, List.setIfInBounds_toArray, List.set_cons_zero, List.set_cons_succ]
      have hbar := hS.b1.lt
      have lA := hS.A.lt
      have lB := hS.B.lt
      go_wp2_with fail
      go_at_call 19
      refine (Dice.roll_any a len cap _ _ (hc.below hS.bel) hl).mono ?_
      rintro e v1 ⟨rfl, hv1, hdice⟩
      go_wp2_with fail
      go_at_call 21
      refine (Prg.program_any _ hdice).mono ?_
      rintro e v2 ⟨vc, l, rfl, hoc, hl32, hl1, hall, hro⟩
      have A2 := row_new hS.A hv1 hro.1
      have B2 := row_new hS.B hv1 hro.1
      have b2 := sl_new hS.b1 hv1 hro.1
      have hB2 := bel_new hS.bel hv1 hro.1
      have hd2 := hro.2
      have s1 := hv1.size
      have s2 := hro.1.size
      have sp := hdice.lt
      clear hS hro hdice
      go_wp2_with fail
      go_at_call 20
      refine (romOf_spec vc l _ hoc.sl (by omega)).mono ?_
      rintro e v3 ⟨vr3, rfl, ho3, hb3⟩
      have hrom := rom_bytes hall hl1 (by omega)
      have hro2 : romOf l = l ++ [chk l] := by simp [romOf, hrom]
      rw [hro2] at ho3
      have A3 := A2.below hb3
      have B3 := B2.below hb3
      have b3 := b2.below hb3
      have hB3 := hB2.trans (hb3.mono hB2.size)
      have hd3 := hd2.below hb3
      have s3 := hb3.size
      clear A2 B2 b2 hB2 hd2 hoc
      go_wp2_with fail
      go_at_call 22
      refine (newMachine_impl vr3 (l ++ [chk l]) _ ho3.sl).mono ?_
      have hnm : newMc (l ++ [chk l]) = Mc.fresh (l ++ [chk l]) := by simp [newMc, hrom]
      rw [hnm, hrom]
      rintro e v4 ⟨vv4, rfl, ⟨er, ea, rfl, he1, he2, he3⟩, hb4⟩
      have A4 := A3.below hb4
      have B4 := B3.below hb4
      have b4 := b3.below hb4
      have hB4 := hB3.trans (hb4.mono hB3.size)
      have hd4 := hd3.below hb4
      have s4 := hb4.size
      have hel1 := he1.lt
      have hel2 := he2.lt
      clear A3 B3 b3 hB3 hd3 ho3
      have HE1 : Hid ((Mc.fresh (l ++ [chk l])).ok = true) := fresh_ok hrom
      have HE2 : Hid (∀ (k : Nat), k < 64 → ∀ (u : Int), bok u = true → ((Mc.fresh (l ++ [chk l])).writtenAt (128 + (k : Int)) u).ok = true ∧ ∀ i : Int, 0 ≤ i ∧ i < 256 → ((Mc.fresh (l ++ [chk l])).writtenAt (128 + (k : Int)) u).readAt i = if i = 128 + (k : Int) then u else (Mc.fresh (l ++ [chk l])).readAt i) :=
        fun k hk u hu => ⟨set_ok hrom k hk hu, fun i hi => read_set hrom k hk hu i hi⟩
      generalize Mc.fresh (l ++ [chk l]) = E at HE1 HE2 he1 he2 hel1 hel2 ⊢
      go_wp2_with (first
        | (refine al_mc rfl rfl ?_; intro v5 z5 hb5; have l5 := z5.lt)
        | (refine st_mc rfl rfl rfl rfl z5 (one_own he1) (one_own he2) ?_; rintro v6 E6 o6 -; have A6 := row_new A4 hb5 o6; have B6 := row_new B4 hb5 o6; have b6 := sl_new b4 hb5 o6; have hB6 := bel_new hB4 hb5 o6; have hd6 := (hd4.below hb5).onto o6 (by omega) (fun h0 x hx e => by have := hd4.code.lt h0 x hx; omega); have x6 := (he1.below hb5).onto o6 (fun e => by have := hel1 _ e; omega); have y6 := (he2.below hb5).onto o6 (fun e => by have := hel2 _ e; omega); have s6 := o6.size))
      clear A4 B4 b4 hB4 hd4 he1 he2 z5
      go_at_call 23
      refine (Dice.below_any _ a len cap _ _ hd6 (by omega)).mono ?_
      rintro e v7 ⟨k, rfl, hk, o7, hd7⟩
      have A7 := A6.onto o7 (by omega)
      have B7 := B6.onto o7 (by omega)
      have E7 := E6.onto o7 (by omega)
      have b7 := (Turn.onto (X := fun q => q = W.heap.size) o7 rfl).sl b6 (fun h0 q hq e => by have := hbar h0 q hq; omega)
      have x7 := x6.onto o7 (fun e => by have := hel1 _ e; omega)
      have y7 := y6.onto o7 (fun e => by have := hel2 _ e; omega)
      have hB7 := below_onto hB6 o7 (by have := hS0; omega)
      clear A6 B6 E6 b6 x6 y6 hB6 hd6
      go_wp2_with fail
      go_at_call 23
      refine (Dice.below_any _ a len cap _ _ hd7 (by omega)).mono ?_
      rintro e v8 ⟨u, rfl, hu, o8, hd8⟩
      have A8 := A7.onto o8 (by omega)
      have B8 := B7.onto o8 (by omega)
      have E8 := E7.onto o8 (by omega)
      have b8 := (Turn.onto (X := fun q => q = W.heap.size) o8 rfl).sl b7 (fun h0 q hq e => by have := hbar h0 q hq; omega)
      have x8 := x7.onto o8 (fun e => by have := hel1 _ e; omega)
      have y8 := y7.onto o8 (fun e => by have := hel2 _ e; omega)
      have hB8 := below_onto hB7 o8 (by have := hS0; omega)
      clear A7 B7 E7 b7 x7 y7 hB7 hd7 hd8
      have hku := HE2.out k (by omega) (u : Int) (by simp [bok]; omega)
      go_wp2_with (refine ld_mc rfl rfl rfl E8 ?_)
      go_at_call 10
      refine (writtenAt_impl _ E (128 + (k : Int)) (u : Int) _ ⟨er, ea, rfl, x8.sl, y8.sl⟩).mono ?_
      generalize E.writtenAt (128 + (k : Int)) (u : Int) = FF at hku ⊢
      rintro e v9 ⟨vv9, rfl, ⟨fr, fa, rfl, hf1, hf2, hf3⟩, hb9⟩
      have A9 := A8.below hb9
      have B9 := B8.below hb9
      have E9 := E8.below hb9
      have b9 := b8.below hb9
      have x9 := x8.sl.below hb9
      have y9 := y8.sl.below hb9
      have hB9 := hB8.trans (hb9.mono hB8.size)
      clear A8 B8 E8 b8 x8 y8 hB8
      go_wp2_with (first
        | (refine al_mc rfl rfl ?_; intro v10 z10 hb10)
        | (refine st_mc rfl rfl rfl rfl z10 (one_own hf1) (one_own hf2) ?_; rintro v11 F11 o11 -; have hK : Gk w0 w1.heap.size w4.heap.size v4.heap.size v9.heap.size x y ar aa er ea fr fa M N E FF v11 := ⟨row_new A9 hb10 o11, row_new B9 hb10 o11, row_new E9 hb10 o11, F11, sl_new b9 hb10 o11, sl_new x9 hb10 o11, sl_new y9 hb10 o11, sl_new hf1.sl hb10 o11, sl_new hf2.sl hb10 o11, bel_new hB9 hb10 o11⟩))
      clear A9 B9 E9 b9 x9 y9 hB9 hf1 hf2 hf3 z10 o11 F11
      have HK : Hid (FF.ok = true ∧ ∀ i : Int, 0 ≤ i ∧ i < 256 → FF.readAt i = if i = 128 + (k : Int) then (u : Int) else E.readAt i) := hku
      clear hku HE2
      go_loopw [18] (fun i wr => ∃ j : Nat, i = .int .i64 j ∧ j ≤ 256 ∧ Gk w0 w1.heap.size w4.heap.size v4.heap.size v9.heap.size x y ar aa er ea fr fa M N E FF wr) (fun i _ => 256 - (intOf i).toNat)
      case atStart => exact ⟨0, rfl, by omega, hK⟩
      case round =>
        clear hK
        obtain ⟨j, rfl, hj256, hK⟩ := hrel
        by_cases hj : j < 256
        · have hread := HK.out.2 (j : Int) (by omega)
          by_cases hjk : (j : Int) = 128 + (k : Int)
          · rw [if_pos hjk] at hread
            have HR : Hid (FF.readAt (j : Int) = (u : Int)) := hread
            clear hread
            have hjt : ((j : Int) == 128 + (k : Int)) = true := by simp [hjk]
            have HJ : Hid ((j : Int) = 128 + (k : Int)) := hjk
            clear hjk
            go_wp2_with (refine ld_mc rfl rfl rfl hK.rE ?_)
            go_at_call 15
            refine (readAt_impl _ E (j : Int) _ ⟨er, ea, rfl, hK.e1, hK.e2⟩).mono ?_
            rintro e u1 ⟨rfl, hbu1⟩
            replace hK := hK.below hbu1
            generalize E.readAt (j : Int) = q0
            go_wp2_with (refine ld_mc rfl rfl rfl hK.rF ?_)
            go_at_call 15
            refine (readAt_impl _ FF (j : Int) _ ⟨fr, fa, rfl, hK.f1, hK.f2⟩).mono ?_
            rw [HR.out]
            rintro e u2 ⟨rfl, hbu2⟩
            replace hK := hK.below hbu2
            go_wp2_with fail
            go_roundw
            case rel => exact ⟨j + 1, by go_num, by omega, hK⟩
            case measure => simp [intOf]; omega
          · rw [if_neg hjk] at hread
            have HR : Hid (FF.readAt (j : Int) = E.readAt (j : Int)) := hread
            clear hread
            have hjt : ((j : Int) == 128 + (k : Int)) = false := by simpa using hjk
            clear hjk
            go_wp2_with (refine ld_mc rfl rfl rfl hK.rE ?_)
            go_at_call 15
            refine (readAt_impl _ E (j : Int) _ ⟨er, ea, rfl, hK.e1, hK.e2⟩).mono ?_
            rintro e u1 ⟨rfl, hbu1⟩
            replace hK := hK.below hbu1
            go_wp2_with (refine ld_mc rfl rfl rfl hK.rF ?_)
            go_at_call 15
            refine (readAt_impl _ FF (j : Int) _ ⟨fr, fa, rfl, hK.f1, hK.f2⟩).mono ?_
            rw [HR.out]
            rintro e u2 ⟨rfl, hbu2⟩
            replace hK := hK.below hbu2
            generalize E.readAt (j : Int) = q0
            go_wp2_with fail
            go_roundw
            case rel => exact ⟨j + 1, by go_num, by omega, hK⟩
            case measure => simp [intOf]; omega
        · go_wp2_with (first
            | (refine ld_mcg rfl rfl rfl hK.rE ?_)
            | (refine ld_mcg rfl rfl rfl hK.rF ?_))
          go_at_call 17
          refine (machineOk_impl _ E _ ⟨er, ea, rfl, hK.e1, hK.e2⟩).mono ?_
          rw [HE1.out]
          rintro e u1 ⟨rfl, hbu1⟩
          replace hK := hK.below hbu1
          go_wp2_with (first
            | (refine ld_mcg rfl rfl rfl hK.rF ?_))
          go_at_call 17
          refine (machineOk_impl _ FF _ ⟨fr, fa, rfl, hK.f1, hK.f2⟩).mono ?_
          rw [HK.out.1]
          rintro e u2 ⟨rfl, hbu2⟩
          replace hK := hK.below hbu2
          have kA := (cw hK.rA).k
          have kB := (cw hK.rB).k
          have kR := (cw hK.rB).vr
          obtain ⟨aR, cR, hAR, _, hcR1, hcR2, _⟩ := hK.b1
          have hBz := hK.bel
          unfold maxLen at hcR2
          by_cases hkk : N.k = M.k
          · have hkt : (N.k == M.k) = true := by simp [hkk]
            clear hK hkk
            go_wp2
            go_ret
            exact ⟨rfl, hBz⟩
          · have hkt : (N.k == M.k) = false := by simpa using hkk
            have hz0 : N.rom.length = 0 := HC.out.resolve_left hkk
            rw [hz0] at hAR
            clear hK hkk
            go_wp2
            go_ret
            exact ⟨rfl, hBz⟩
  · have hs : decide ((4096 : Int) < (len : Int)) = true := by simp; omega
    go_enter Try.func3, Try.ntmps3
    go_wp2_with (go_at_call 8; refine (big_m _ _ _ _).mono ?_; rintro e w0 ⟨rfl, rfl⟩; rw [hs])
    go_ret
    exact ⟨rfl, Below.refl _ _⟩
end Go.Proofs.Ytogmhpjelmlonaa.Mem
