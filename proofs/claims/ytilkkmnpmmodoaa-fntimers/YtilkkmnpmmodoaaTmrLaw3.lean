/-
  The law of the timer, walked.
-/
import Derived.Test.YtilkkmnpmmodoaaTmrLaw2
namespace Go.Proofs.Ytilkkmnpmmodoaa.Tmr
open Go.ChangeShapes Go.WideShapes Go.RowKit Base Num Slc Rw Draw Reg
set_option linter.unusedVariables false

theorem big_any (a : Option Addr) (len cap : Nat) (w : World) :
    Calls Try.prog 7 #[.slice a len cap] w fun e w' => e = .returned (.bool (decide ((4096 : Int) < (len : Int)))) ∧ w' = w := by
  go_enter Try.func7, Try.ntmps7
  go_wp2
  go_ret
  exact ⟨rfl, rfl⟩
/-- The three timers of the law's first part. -/
structure G6 (w : World) (b3 b5 b7 : Nat) (t u : Tm) (W : World) : Prop where
  r3 : Row W b3 #[.int .i64 t.c, .int .i64 t.v, .int .i64 t.s, .int .i64 t.m] 25
  r5 : Row W b5 #[.int .i64 u.c, .int .i64 u.v, .int .i64 u.s, .int .i64 u.m] 25
  r7 : Row W b7 #[.int .i64 u.c, .int .i64 u.v, .int .i64 u.s, .int .i64 u.m] 25
  bel : Below w.heap.size w W
theorem G6.drew {w W : World} {b3 b5 b7 : Nat} {t u : Tm} (h : G6 w b3 b5 b7 t u W) : G6 w b3 b5 b7 t u W.drew := ⟨h.r3.drewN 1, h.r5.drewN 1, h.r7.drewN 1, h.bel.drew⟩
theorem G6.below {w W W' : World} {b3 b5 b7 : Nat} {t u : Tm} (h : G6 w b3 b5 b7 t u W) (hb : Below W.heap.size W W') : G6 w b3 b5 b7 t u W' := ⟨h.r3.below hb, h.r5.below hb, h.r7.below hb, h.bel.trans (hb.mono h.bel.size)⟩
/-- The five timers of its second part. -/
structure G23 (w : World) (b10 b13 b15 b17 b19 : Nat) (U X Z E : Tm) (W : World) : Prop where
  r10 : Row W b10 #[.int .i64 U.c, .int .i64 U.v, .int .i64 U.s, .int .i64 U.m] 25
  r13 : Row W b13 #[.int .i64 X.c, .int .i64 X.v, .int .i64 X.s, .int .i64 X.m] 25
  r15 : Row W b15 #[.int .i64 Z.c, .int .i64 Z.v, .int .i64 Z.s, .int .i64 Z.m] 25
  r17 : Row W b17 #[.int .i64 Z.c, .int .i64 Z.v, .int .i64 Z.s, .int .i64 Z.m] 25
  r19 : Row W b19 #[.int .i64 E.c, .int .i64 E.v, .int .i64 E.s, .int .i64 E.m] 25
  bel : Below w.heap.size w W
theorem G23.drew {w W : World} {b10 b13 b15 b17 b19 : Nat} {U X Z E : Tm} (h : G23 w b10 b13 b15 b17 b19 U X Z E W) : G23 w b10 b13 b15 b17 b19 U X Z E W.drew := ⟨h.r10.drewN 1, h.r13.drewN 1, h.r15.drewN 1, h.r17.drewN 1, h.r19.drewN 1, h.bel.drew⟩
theorem G23.below {w W W' : World} {b10 b13 b15 b17 b19 : Nat} {U X Z E : Tm} (h : G23 w b10 b13 b15 b17 b19 U X Z E W) (hb : Below W.heap.size W W') : G23 w b10 b13 b15 b17 b19 U X Z E W' := ⟨h.r10.below hb, h.r13.below hb, h.r15.below hb, h.r17.below hb, h.r19.below hb, h.bel.trans (hb.mono h.bel.size)⟩
theorem tmv (t : Tm) : t.val = .agg #[.int .i64 t.c, .int .i64 t.v, .int .i64 t.s, .int .i64 t.m] := rfl
set_option maxHeartbeats 4000000 in
set_option maxRecDepth 100000 in
theorem timers_any (a : Option Addr) (len cap : Nat) (w : World) (hc : CodeAt w a len) :
    Calls Try.prog 3 #[.slice a len cap] w fun e w' => e = .returned (.bool true) ∧ Below w.heap.size w w' := by
  by_cases hl : len ≤ 4096
  · have hs : decide ((4096 : Int) < (len : Int)) = false := by simp; omega
    go_enter Try.func3, Try.ntmps3
    go_wp2_with (go_at_call 7; refine (big_any _ _ _ _).mono ?_; rintro e w1 ⟨rfl, rfl⟩; rw [hs])
    go_at_call 8
    refine (drawTimerAfter_any a len cap _ hc hl).mono ?_
    rintro e w2 ⟨t, n, rfl, hB⟩
    rw [tmv]
    go_wp2_with fail
    go_at_call 9
    refine (timerAfter_impl t n _).mono ?_
    generalize hu : t.after n = u
    rintro e w3 ⟨rfl, hb3⟩
    have r3 := (Row.new w2 #[.int .i64 t.c, .int .i64 t.v, .int .i64 t.s, .int .i64 t.m] 25).below hb3
    replace hB := (hB.alloc hB.size (.cells #[.int .i64 t.c, .int .i64 t.v, .int .i64 t.s, .int .i64 t.m] 25)).trans (hb3.mono (by have := hB.size; simp; omega))
    have c3 := r3.cell
    have l3 := r3.lt
    clear hb3
    rw [tmv]
    go_wp2_with fail
    go_at_call 10
    refine (timerAfter_spec t n _).mono ?_
    rw [hu]
    rintro e w4 ⟨rfl, hb4⟩
    have r5 := (Row.new w3 #[.int .i64 u.1.c, .int .i64 u.1.v, .int .i64 u.1.s, .int .i64 u.1.m] 25).below hb4
    replace r3 := (r3.alloc (.cells #[.int .i64 u.1.c, .int .i64 u.1.v, .int .i64 u.1.s, .int .i64 u.1.m] 25)).below hb4
    replace hB := (hB.alloc hB.size (.cells #[.int .i64 u.1.c, .int .i64 u.1.v, .int .i64 u.1.s, .int .i64 u.1.m] 25)).trans (hb4.mono (by have := hB.size; simp; omega))
    clear hb4 c3
    rw [tmv]
    go_wp2_with fail
    have r7 := Row.new w4 #[.int .i64 u.1.c, .int .i64 u.1.v, .int .i64 u.1.s, .int .i64 u.1.m] 25
    replace r5 := r5.alloc (.cells #[.int .i64 u.1.c, .int .i64 u.1.v, .int .i64 u.1.s, .int .i64 u.1.m] 25)
    replace r3 := r3.alloc (.cells #[.int .i64 u.1.c, .int .i64 u.1.v, .int .i64 u.1.s, .int .i64 u.1.m] 25)
    replace hB := hB.alloc hB.size (.cells #[.int .i64 u.1.c, .int .i64 u.1.v, .int .i64 u.1.s, .int .i64 u.1.m] 25)
    have hG : G6 w1 w2.heap.size w3.heap.size w4.heap.size t u.1 _ := ⟨r3, r5, r7, hB⟩
    clear r3 r5 r7 hB
    refine region_by (by kernel_rfl) (by kernel_rfl) (fun W => G6 w1 w2.heap.size w3.heap.size w4.heap.size t u.1 W)
      (kinds [KIs (.agg #[.int .i64 u.1.c, .int .i64 u.1.v, .int .i64 u.1.s, .int .i64 u.1.m]), KIs (.agg #[.int .i64 u.1.c, .int .i64 u.1.v, .int .i64 u.1.s, .int .i64 u.1.m]), KIs (.bool false), KIs (.bool false), KIs (.int .i64 u.2), KIs (.int .i64 u.2), KIs (.bool false), KIs (.bool false), KIs (.bool false), KIs (.agg #[.int .i64 t.c, .int .i64 t.v, .int .i64 t.s, .int .i64 t.m]), KIs (.bool t.ok), KIs (.agg #[.int .i64 t.c, .int .i64 t.v, .int .i64 t.s, .int .i64 t.m]), KIs (.bool t.ok), KIs (.bool false), KIs (.bool false)])
      (Rel fun _ => True) (by kernel_rfl) (kinds_mono ?mono) hG.drew ?step ?done
    case mono =>
      intro K hK
      simp only [List.mem_cons, List.not_mem_nil, or_false] at hK
      rcases hK with rfl | rfl | rfl | rfl | rfl | rfl | rfl | rfl | rfl | rfl | rfl | rfl | rfl | rfl | rfl
      all_goals first | exact bears_is _ _ | exact bears_any _
    case step =>
      intro L i o A W hi hI hL hd
      have hin : i < 15 := by
        by_cases hl : i < 15
        · exact hl
        · simp [hl] at hi
      have hsz : A.tmps.size = 152 := hI.size
      rcases i with _ | i
      · obtain rfl := (Option.some.inj hi).symm
        have e : A.eval (.tmp 5) = .pointer (some ⟨w3.heap.size, 0, none⟩) := hI.old 5 (by kernel_rfl)
        exact at_op rfl rfl (wp_load_row _ _ rfl _ e _ _ _ _ hI.g.r5.row und_tm rfl info_tm ⟨_, rfl, rfl, hI.g, Rel.refl _ _⟩)
      rcases i with _ | i
      · obtain rfl := (Option.some.inj hi).symm
        have e : A.eval (.tmp 7) = .pointer (some ⟨w4.heap.size, 0, none⟩) := hI.old 7 (by kernel_rfl)
        exact at_op rfl rfl (wp_load_row _ _ rfl _ e _ _ _ _ hI.g.r7.row und_tm rfl info_tm ⟨_, rfl, rfl, hI.g, Rel.refl _ _⟩)
      rcases i with _ | i
      · obtain rfl := (Option.some.inj hi).symm
        have e1 : A.eval (.tmp 43) = .agg #[.int .i64 u.1.c, .int .i64 u.1.v, .int .i64 u.1.s, .int .i64 u.1.m] := hI.get hd 0 43 rfl (by kernel_rfl)
        have e2 : A.eval (.tmp 44) = .agg #[.int .i64 u.1.c, .int .i64 u.1.v, .int .i64 u.1.s, .int .i64 u.1.m] := hI.get hd 1 44 rfl (by kernel_rfl)
        exact at_op rfl rfl (bin_op rfl e1 e2 (fun w => by simp [go_sem]) ⟨_, rfl, rfl, hI.g, Rel.refl _ _⟩)
      rcases i with _ | i
      · obtain rfl := (Option.some.inj hi).symm
        have e : A.eval (.tmp 45) = .bool false := hI.get hd 2 45 rfl (by kernel_rfl)
        exact at_op rfl rfl (move_op rfl ⟨_, rfl, e, hI.g, Rel.refl _ _⟩)
      rcases i with _ | i
      · obtain rfl := (Option.some.inj hi).symm
        have hg : A.tmps.getD 46 undef = .bool false := hI.get hd 3 46 rfl (by kernel_rfl)
        have e : A.eval (.tmp 6) = .int .i64 u.2 := hI.old 6 (by kernel_rfl)
        exact at_guard rfl rfl (j := 3) (k := 46) rfl (by omega) hg (move_op rfl ⟨_, rfl, e, hI.g, Rel.refl _ _⟩)
      rcases i with _ | i
      · obtain rfl := (Option.some.inj hi).symm
        have hg : A.tmps.getD 46 undef = .bool false := hI.get hd 3 46 rfl (by kernel_rfl)
        have e : A.eval (.tmp 8) = .int .i64 u.2 := hI.old 8 (by kernel_rfl)
        exact at_guard rfl rfl (j := 3) (k := 46) rfl (by omega) hg (move_op rfl ⟨_, rfl, e, hI.g, Rel.refl _ _⟩)
      rcases i with _ | i
      · obtain rfl := (Option.some.inj hi).symm
        have hg : A.tmps.getD 46 undef = .bool false := hI.get hd 3 46 rfl (by kernel_rfl)
        have e1 : A.eval (.tmp 47) = .int .i64 u.2 := hI.get hd 4 47 rfl (by kernel_rfl)
        have e2 : A.eval (.tmp 48) = .int .i64 u.2 := hI.get hd 5 48 rfl (by kernel_rfl)
        exact at_guard rfl rfl (j := 3) (k := 46) rfl (by omega) hg (bin_op rfl e1 e2 (fun w => by simp [go_sem]) ⟨_, rfl, rfl, hI.g, Rel.refl _ _⟩)
      rcases i with _ | i
      · obtain rfl := (Option.some.inj hi).symm
        have e1 : A.eval (.tmp 46) = .bool false := hI.get hd 3 46 rfl (by kernel_rfl)
        have e3 : A.eval (.tmp 49) = .bool false := hI.get hd 6 49 rfl (by kernel_rfl)
        exact at_op rfl rfl (pick_op rfl e1 ⟨_, rfl, e3, hI.g, Rel.refl _ _⟩)
      rcases i with _ | i
      · obtain rfl := (Option.some.inj hi).symm
        have e : A.eval (.tmp 50) = .bool false := hI.get hd 7 50 rfl (by kernel_rfl)
        exact at_op rfl rfl (move_op rfl ⟨_, rfl, e, hI.g, Rel.refl _ _⟩)
      rcases i with _ | i
      · obtain rfl := (Option.some.inj hi).symm
        have hg : A.tmps.getD 51 undef = .bool false := hI.get hd 8 51 rfl (by kernel_rfl)
        have e : A.eval (.tmp 3) = .pointer (some ⟨w2.heap.size, 0, none⟩) := hI.old 3 (by kernel_rfl)
        exact at_guard rfl rfl (j := 8) (k := 51) rfl (by omega) hg (wp_load_row _ _ rfl _ e _ _ _ _ hI.g.r3.row und_tm rfl info_tm ⟨_, rfl, rfl, hI.g, Rel.refl _ _⟩)
      rcases i with _ | i
      · obtain rfl := (Option.some.inj hi).symm
        have hg : A.tmps.getD 51 undef = .bool false := hI.get hd 8 51 rfl (by kernel_rfl)
        have e0 : A.eval (.tmp 52) = .agg #[.int .i64 t.c, .int .i64 t.v, .int .i64 t.s, .int .i64 t.m] := hI.get hd 9 52 rfl (by kernel_rfl)
        refine at_guard rfl rfl (j := 8) (k := 51) rfl (by omega) hg (call_op rfl Try.func11 (by kernel_rfl) (by kernel_rfl) ?_)
        simp only [List.map_cons, List.map_nil, e0]
        refine (timerOk_impl t W).mono ?_
        rintro e w5 ⟨rfl, hb5⟩
        exact ⟨_, rfl, _, rfl, rfl, hI.g.below hb5, Rel.below hb5⟩
      rcases i with _ | i
      · obtain rfl := (Option.some.inj hi).symm
        have hg : A.tmps.getD 51 undef = .bool false := hI.get hd 8 51 rfl (by kernel_rfl)
        have e : A.eval (.tmp 3) = .pointer (some ⟨w2.heap.size, 0, none⟩) := hI.old 3 (by kernel_rfl)
        exact at_guard rfl rfl (j := 8) (k := 51) rfl (by omega) hg (wp_load_row _ _ rfl _ e _ _ _ _ hI.g.r3.row und_tm rfl info_tm ⟨_, rfl, rfl, hI.g, Rel.refl _ _⟩)
      rcases i with _ | i
      · obtain rfl := (Option.some.inj hi).symm
        have hg : A.tmps.getD 51 undef = .bool false := hI.get hd 8 51 rfl (by kernel_rfl)
        have e0 : A.eval (.tmp 54) = .agg #[.int .i64 t.c, .int .i64 t.v, .int .i64 t.s, .int .i64 t.m] := hI.get hd 11 54 rfl (by kernel_rfl)
        refine at_guard rfl rfl (j := 8) (k := 51) rfl (by omega) hg (call_op rfl Try.func12 (by kernel_rfl) (by kernel_rfl) ?_)
        simp only [List.map_cons, List.map_nil, e0]
        refine (timerOk_spec t W).mono ?_
        rintro e w5 ⟨rfl, hb5⟩
        exact ⟨_, rfl, _, rfl, rfl, hI.g.below hb5, Rel.below hb5⟩
      rcases i with _ | i
      · obtain rfl := (Option.some.inj hi).symm
        have hg : A.tmps.getD 51 undef = .bool false := hI.get hd 8 51 rfl (by kernel_rfl)
        have e1 : A.eval (.tmp 53) = .bool t.ok := hI.get hd 10 53 rfl (by kernel_rfl)
        have e2 : A.eval (.tmp 55) = .bool t.ok := hI.get hd 12 55 rfl (by kernel_rfl)
        exact at_guard rfl rfl (j := 8) (k := 51) rfl (by omega) hg (bin_op rfl e1 e2 (fun w => by simp [go_sem]) ⟨_, rfl, rfl, hI.g, Rel.refl _ _⟩)
      rcases i with _ | i
      · obtain rfl := (Option.some.inj hi).symm
        have e1 : A.eval (.tmp 51) = .bool false := hI.get hd 8 51 rfl (by kernel_rfl)
        have e3 : A.eval (.tmp 56) = .bool false := hI.get hd 13 56 rfl (by kernel_rfl)
        exact at_op rfl rfl (pick_op rfl e1 ⟨_, rfl, e3, hI.g, Rel.refl _ _⟩)
      omega
    case done =>
      intro A W hI
      have e0 : A.tmps.getD 0 undef = .slice a len cap := hI.old 0 (by kernel_rfl)
      have e57 : A.tmps.getD 57 undef = .bool false := hI.slot 14 57 rfl rfl
      have hA := frame_lit A 152 hI.size
      have hg := hI.g
      have hde : A.defers = [] := hI.defers
      rw [hde, show List.range 152 = [0, 1, 2, 3, 4, 5, 6, 7, 8, 9, 10, 11, 12, 13, 14, 15, 16, 17, 18, 19, 20, 21, 22, 23, 24, 25, 26, 27, 28, 29, 30, 31, 32, 33, 34, 35, 36, 37, 38, 39, 40, 41, 42, 43, 44, 45, 46, 47, 48, 49, 50, 51, 52, 53, 54, 55, 56, 57, 58, 59, 60, 61, 62, 63, 64, 65, 66, 67, 68, 69, 70, 71, 72, 73, 74, 75, 76, 77, 78, 79, 80, 81, 82, 83, 84, 85, 86, 87, 88, 89, 90, 91, 92, 93, 94, 95, 96, 97, 98, 99, 100, 101, 102, 103, 104, 105, 106, 107, 108, 109, 110, 111, 112, 113, 114, 115, 116, 117, 118, 119, 120, 121, 122, 123, 124, 125, 126, 127, 128, 129, 130, 131, 132, 133, 134, 135, 136, 137, 138, 139, 140, 141, 142, 143, 144, 145, 146, 147, 148, 149, 150, 151] from rfl] at hA
      simp only [List.map_cons, List.map_nil, e0, e57] at hA
      rw [hA]
      clear hA e0 e57 hI hde
      have hc2 := hc.below hg.bel
      have hB := hg.bel
      clear hg hG
      go_wp2_with fail
      go_at_call 13
      refine (Dice.roll_any a len cap _ _ hc2 hl).mono ?_
      rintro e w5 ⟨rfl, hb5, hd⟩
      have hBs := hB.size
      replace hB := hB.trans (hb5.mono hBs)
      clear hb5 hc2 l3
      go_wp2_with fail
      go_at_call 14
      refine (Dice.below_any _ a len cap _ _ hd (by omega)).mono ?_
      rintro e w6 ⟨c, rfl, hc, ho, hd2⟩
      replace hB := hB.trans (ho.below hBs hB.size)
      clear hd ho
      have hd := hd2
      clear hd2
      go_wp2_with fail
      go_at_call 14
      refine (Dice.below_any _ a len cap _ _ hd (by omega)).mono ?_
      rintro e w7 ⟨v, rfl, hv, ho, hd2⟩
      replace hB := hB.trans (ho.below hBs hB.size)
      clear hd ho
      have hd := hd2
      clear hd2
      go_wp2_with fail
      go_at_call 14
      refine (Dice.below_any _ a len cap _ _ hd (by omega)).mono ?_
      rintro e w8 ⟨s, rfl, hs, ho, hd2⟩
      replace hB := hB.trans (ho.below hBs hB.size)
      clear hd ho
      have hd := hd2
      clear hd2
      go_wp2_with fail
      go_at_call 14
      refine (Dice.below_any _ a len cap _ _ hd (by omega)).mono ?_
      rintro e w9 ⟨m, rfl, hm, ho, hd2⟩
      replace hB := hB.trans (ho.below hBs hB.size)
      clear hd ho
      have hd := hd2
      clear hd2
      have hc1000 := hc
      have hU : Tm.ok ⟨c, v, s, m⟩ = true := Tm.ok_mk (by simp; omega) (by simp; omega) (by simp; omega) (by simp; omega)
      have r10 := Row.new w9 #[.int .i64 (c : Int), .int .i64 (v : Int), .int .i64 (s : Int), .int .i64 (m : Int)] 25
      have hdl := hd.lt
      have hW9 : W.heap.size < w9.heap.size := hdl
      replace hd := hd.below ((Below.refl _ _).alloc (Nat.le_refl _) (.cells #[.int .i64 (c : Int), .int .i64 (v : Int), .int .i64 (s : Int), .int .i64 (m : Int)] 25))
      replace hB := hB.alloc hB.size (.cells #[.int .i64 (c : Int), .int .i64 (v : Int), .int .i64 (s : Int), .int .i64 (m : Int)] 25)
      go_wp2_with fail
      go_at_call 14
      refine (Dice.below_any _ a len cap _ _ hd (by omega)).mono ?_
      rintro e w10 ⟨k, rfl, hk, ho, hd2⟩
      replace hB := hB.trans (ho.below hBs hB.size)
      replace r10 := r10.onto ho (by omega)
      clear hd ho
      have hd := hd2
      clear hd2
      go_wp2_with fail
      go_at_call 14
      refine (Dice.below_any _ a len cap _ _ hd (by omega)).mono ?_
      rintro e w11 ⟨j, rfl, hj, ho, hd2⟩
      replace hB := hB.trans (ho.below hBs hB.size)
      replace r10 := r10.onto ho (by omega)
      clear hd ho
      have hd := hd2
      clear hd2
      clear hd hu hl hm hs hv hc hdl
      generalize hUU : (⟨c, v, s, m⟩ : Tm) = U at hU
      have r10 : Row w11 w9.heap.size #[.int .i64 U.c, .int .i64 U.v, .int .i64 U.s, .int .i64 U.m] 25 := by subst hUU; exact r10
      have hUc : U.c < 1000 := by subst hUU; simpa using hc1000
      clear hUU
      obtain ⟨X, hX⟩ : ∃ X, U.after (k : Int) = X := ⟨_, rfl⟩
      obtain ⟨Z, hZ⟩ : ∃ Z, U.after ((k : Int) + (j : Int)) = Z := ⟨_, rfl⟩
      have hXZ : X.1.after (j : Int) = (Z.1, Z.2 - X.2) := by
        have := Tm.after_add (t := U) (k := (k : Int)) (m := (j : Int)) hU (by omega) (by omega) (by omega) (by omega)
        rw [hX, hZ] at this
        exact this
      have c10 := r10.cell
      have l10 := r10.lt
      go_wp2_with fail
      go_at_call 9
      refine (timerAfter_impl U (k : Int) _).mono ?_
      rw [hX]
      rintro e w12 ⟨rfl, hb12⟩
      replace hB := hB.trans (hb12.mono hB.size)
      clear c10 l10
      replace r10 := r10.below hb12
      clear hb12
      rw [tmv]
      go_wp2_with fail
      go_at_call 9
      refine (timerAfter_impl X.1 (j : Int) _).mono ?_
      rw [hXZ]
      rintro e w13 ⟨rfl, hb13⟩
      have r13 := (Row.new w12 #[.int .i64 X.1.c, .int .i64 X.1.v, .int .i64 X.1.s, .int .i64 X.1.m] 25).below hb13
      replace r10 := (r10.alloc (.cells #[.int .i64 X.1.c, .int .i64 X.1.v, .int .i64 X.1.s, .int .i64 X.1.m] 25)).below hb13
      replace hB := (hB.alloc hB.size (.cells #[.int .i64 X.1.c, .int .i64 X.1.v, .int .i64 X.1.s, .int .i64 X.1.m] 25)).trans (hb13.mono (by have := hB.size; simp; omega))
      clear hb13
      have c10 := r10.cell
      have l10 := r10.lt
      rw [tmv]
      go_wp2_with fail
      go_at_call 9
      refine (timerAfter_impl U ((k : Int) + (j : Int)) _).mono ?_
      rw [hZ]
      rintro e w14 ⟨rfl, hb14⟩
      have r15 := (Row.new w13 #[.int .i64 Z.1.c, .int .i64 Z.1.v, .int .i64 Z.1.s, .int .i64 Z.1.m] 25).below hb14
      replace r10 := (r10.alloc (.cells #[.int .i64 Z.1.c, .int .i64 Z.1.v, .int .i64 Z.1.s, .int .i64 Z.1.m] 25)).below hb14
      replace r13 := (r13.alloc (.cells #[.int .i64 Z.1.c, .int .i64 Z.1.v, .int .i64 Z.1.s, .int .i64 Z.1.m] 25)).below hb14
      replace hB := (hB.alloc hB.size (.cells #[.int .i64 Z.1.c, .int .i64 Z.1.v, .int .i64 Z.1.s, .int .i64 Z.1.m] 25)).trans (hb14.mono (by have := hB.size; simp; omega))
      clear hb14 c10 l10
      have c10 := r10.cell
      have l10 := r10.lt
      rw [tmv]
      go_wp2_with fail
      have hG : G23 w1 w9.heap.size w12.heap.size w13.heap.size w14.heap.size (w14.heap.size + 1) U X.1 Z.1 U ((w14.alloc (.cells #[.int .i64 Z.1.c, .int .i64 Z.1.v, .int .i64 Z.1.s, .int .i64 Z.1.m] 25)).alloc (.cells #[.int .i64 U.c, .int .i64 U.v, .int .i64 U.s, .int .i64 U.m] 25)) :=
        ⟨(r10.alloc _).alloc _, (r13.alloc _).alloc _, (r15.alloc _).alloc _, (Row.new w14 #[.int .i64 Z.1.c, .int .i64 Z.1.v, .int .i64 Z.1.s, .int .i64 Z.1.m] 25).alloc _, Row.new1 (by simp) _ _, (hB.alloc hB.size _).alloc (by have := hB.size; simp; omega) _⟩
      have o1 := r10.lt
      have o2 := r13.lt
      have o3 := r15.lt
      have o4 := hB.size
      clear r10 r13 r15 hB c10 l10 hXZ
      go_loopw [20, 21] (fun sm iv wr => ∃ i : Nat, i ≤ k ∧ iv = .int .i64 (i : Int) ∧ sm = .int .i64 (U.after (i : Int)).2 ∧ G23 w1 w9.heap.size w12.heap.size w13.heap.size w14.heap.size (w14.heap.size + 1) U X.1 Z.1 (U.after (i : Int)).1 wr) (fun _ iv _ => k - (intOf iv).toNat)
      case atStart => exact ⟨0, by omega, rfl, by rw [show ((0 : Nat) : Int) = 0 from rfl, Tm.after_zero hU], by rw [show ((0 : Nat) : Int) = 0 from rfl, Tm.after_zero hU]; exact hG⟩
      case round =>
        obtain ⟨i, hi, rfl, rfl, hr⟩ := hrel
        clear hG
        by_cases hik : i < k
        · have hPN := Tm.after_add (t := U) (k := (i : Int)) (m := 1) hU (by omega) (by omega) (by omega) (by omega)
          have m1 := Tm.after_most (t := U) (n := (i : Int)) (Tm.may_mk hU (by omega) (by omega) (by omega))
          have m2 := Tm.after_most (t := U) (n := (i : Int) + 1) (Tm.may_mk hU (by omega) (by omega) (by omega))
          generalize hP : U.after (i : Int) = PP at *
          generalize hN : U.after ((i : Int) + 1) = NN at *
          have c19 := hr.r19.cell
          have l19 := hr.r19.lt
          have hlt : (i : Int) < (k : Int) := by omega
          go_wp2_with fail
          go_at_call 9
          refine (timerAfter_impl PP.1 1 _).mono ?_
          rw [hPN]
          rintro e w15 ⟨rfl, hb15⟩
          replace hr := hr.below hb15
          clear c19 l19 hb15
          rw [tmv]
          have l19 := hr.r19.lt
          go_wp2_with (refine st_tm rfl rfl rfl rfl (hr.r19.alloc _) rfl ?_; intro w16 r16 ho16 hs16)
          go_roundw
          case rel =>
            have hN' : U.after (((i + 1 : Nat)) : Int) = NN := by rw [show (((i + 1 : Nat)) : Int) = (i : Int) + 1 from by omega]; exact hN
            refine ⟨i + 1, by omega, by simp, by rw [hN']; congr 1; omega, ?_⟩
            rw [hN']
            exact ⟨(hr.r10.alloc _).onto ho16 (by omega), (hr.r13.alloc _).onto ho16 (by omega), (hr.r15.alloc _).onto ho16 (by omega), (hr.r17.alloc _).onto ho16 (by omega), r16, below_onto (hr.bel.alloc hr.bel.size _) ho16 (by omega)⟩
          case measure => simp [intOf]; omega
        · obtain rfl : k = i := by omega
          rw [hX] at hr ⊢
          have hZm : U.may ((k : Int) + (j : Int)) = true := Tm.may_mk hU (by omega) (by omega) (by omega)
          have hXm : U.may (k : Int) = true := Tm.may_mk hU (by omega) (by omega) (by omega)
          have hZok : Z.1.ok = true := by rw [← hZ]; exact Tm.after_ok hZm
          have mZ : 0 ≤ Z.2 ∧ Z.2 ≤ (k : Int) + (j : Int) := by rw [← hZ]; exact Tm.after_most hZm
          have mX : 0 ≤ X.2 ∧ X.2 ≤ (k : Int) := by rw [← hX]; exact Tm.after_most hXm
          have hZc : Z.1.c = U.c + (k : Int) + (j : Int) := by rw [← hZ, Tm.after_yes hZm]; simp; omega
          have hU0 := (Tm.ok_true hU).1
          have hnlt : ¬ (k : Int) < (k : Int) := by omega
          have hG := hr
          clear hr hX hZ hZm hXm
          go_wp2
          refine region_by (by kernel_rfl) (by kernel_rfl) (fun W => G23 w1 w9.heap.size w12.heap.size w13.heap.size w14.heap.size (w14.heap.size + 1) U X.1 Z.1 X.1 W)
            (kinds [KIs (.agg #[.int .i64 Z.1.c, .int .i64 Z.1.v, .int .i64 Z.1.s, .int .i64 Z.1.m]), KIs (.agg #[.int .i64 Z.1.c, .int .i64 Z.1.v, .int .i64 Z.1.s, .int .i64 Z.1.m]), KIs (.bool true), KIs (.bool true), KIs (.int .i64 X.2), KIs (.int .i64 (Z.2 - X.2)), KIs (.int .i64 (X.2 + (Z.2 - X.2))), KIs (.int .i64 Z.2), KIs (.bool true), KIs (.bool true), KIs (.bool true), KIs (.agg #[.int .i64 X.1.c, .int .i64 X.1.v, .int .i64 X.1.s, .int .i64 X.1.m]), KIs (.agg #[.int .i64 X.1.c, .int .i64 X.1.v, .int .i64 X.1.s, .int .i64 X.1.m]), KIs (.bool true), KIs (.bool true), KIs (.bool true), KIs (.int .i64 X.2), KIs (.int .i64 X.2), KIs (.bool true), KIs (.bool true), KIs (.bool true), KIs (.agg #[.int .i64 Z.1.c, .int .i64 Z.1.v, .int .i64 Z.1.s, .int .i64 Z.1.m]), KIs (.bool true), KIs (.bool true), KIs (.bool true), KIs (.pointer (some ⟨w14.heap.size, 0, none⟩)), KIs (.int .i64 Z.1.c), KIs (.pointer (some ⟨w9.heap.size, 0, none⟩)), KIs (.int .i64 U.c), KIs (.int .i64 (k : Int)), KIs (.int .i64 (U.c + (k : Int))), KIs (.int .i64 (j : Int)), KIs (.int .i64 (U.c + (k : Int) + (j : Int))), KIs (.bool true), KIs (.bool true), KIs (.bool true), KIs (.pointer (some ⟨w9.heap.size, 3, none⟩)), KIs (.int .i64 U.m), KIs (.int .i64 (rate U.m)), KIs (.pointer (some ⟨w9.heap.size, 3, none⟩)), KIs (.int .i64 U.m), KIs (.int .i64 (rate U.m)), KIs (.bool true), KIs (.bool true), KIs (.bool true)])
            (Rel fun _ => True) (by kernel_rfl) (kinds_mono ?mono) hG.drew ?step ?done
          case mono =>
            intro K hK
            simp only [List.mem_cons, List.not_mem_nil, or_false] at hK
            rcases hK with rfl | rfl | rfl | rfl | rfl | rfl | rfl | rfl | rfl | rfl | rfl | rfl | rfl | rfl | rfl | rfl | rfl | rfl | rfl | rfl | rfl | rfl | rfl | rfl | rfl | rfl | rfl | rfl | rfl | rfl | rfl | rfl | rfl | rfl | rfl | rfl | rfl | rfl | rfl | rfl | rfl | rfl | rfl | rfl | rfl
            all_goals first | exact bears_is _ _ | exact bears_any _
          case step =>
            intro L ix o A W hi hI hL hd
            have hin : ix < 45 := by
              by_cases hl : ix < 45
              · exact hl
              · simp [hl] at hi
            have hsz : A.tmps.size = 152 := hI.size
            rcases ix with _ | ix
            · obtain rfl := (Option.some.inj hi).symm
              have e : A.eval (.tmp 15) = .pointer (some ⟨w13.heap.size, 0, none⟩) := hI.old 15 (by kernel_rfl)
              exact at_op rfl rfl (wp_load_row _ _ rfl _ e _ _ _ _ hI.g.r15.row und_tm rfl info_tm ⟨_, rfl, rfl, hI.g, Rel.refl _ _⟩)
            rcases ix with _ | ix
            · obtain rfl := (Option.some.inj hi).symm
              have e : A.eval (.tmp 17) = .pointer (some ⟨w14.heap.size, 0, none⟩) := hI.old 17 (by kernel_rfl)
              exact at_op rfl rfl (wp_load_row _ _ rfl _ e _ _ _ _ hI.g.r17.row und_tm rfl info_tm ⟨_, rfl, rfl, hI.g, Rel.refl _ _⟩)
            rcases ix with _ | ix
            · obtain rfl := (Option.some.inj hi).symm
              have e1 : A.eval (.tmp 108) = .agg #[.int .i64 Z.1.c, .int .i64 Z.1.v, .int .i64 Z.1.s, .int .i64 Z.1.m] := hI.get hd 0 108 rfl (by kernel_rfl)
              have e2 : A.eval (.tmp 109) = .agg #[.int .i64 Z.1.c, .int .i64 Z.1.v, .int .i64 Z.1.s, .int .i64 Z.1.m] := hI.get hd 1 109 rfl (by kernel_rfl)
              exact at_op rfl rfl (bin_op rfl e1 e2 (fun w => by simp [go_sem]) ⟨_, rfl, rfl, hI.g, Rel.refl _ _⟩)
            rcases ix with _ | ix
            · obtain rfl := (Option.some.inj hi).symm
              have e : A.eval (.tmp 110) = .bool true := hI.get hd 2 110 rfl (by kernel_rfl)
              exact at_op rfl rfl (move_op rfl ⟨_, rfl, e, hI.g, Rel.refl _ _⟩)
            rcases ix with _ | ix
            · obtain rfl := (Option.some.inj hi).symm
              have hg : A.tmps.getD 111 undef = .bool true := hI.get hd 3 111 rfl (by kernel_rfl)
              have e : A.eval (.tmp 14) = .int .i64 X.2 := hI.old 14 (by kernel_rfl)
              exact at_guard rfl rfl (j := 3) (k := 111) rfl (by omega) hg (move_op rfl ⟨_, rfl, e, hI.g, Rel.refl _ _⟩)
            rcases ix with _ | ix
            · obtain rfl := (Option.some.inj hi).symm
              have hg : A.tmps.getD 111 undef = .bool true := hI.get hd 3 111 rfl (by kernel_rfl)
              have e : A.eval (.tmp 16) = .int .i64 (Z.2 - X.2) := hI.old 16 (by kernel_rfl)
              exact at_guard rfl rfl (j := 3) (k := 111) rfl (by omega) hg (move_op rfl ⟨_, rfl, e, hI.g, Rel.refl _ _⟩)
            rcases ix with _ | ix
            · obtain rfl := (Option.some.inj hi).symm
              have hg : A.tmps.getD 111 undef = .bool true := hI.get hd 3 111 rfl (by kernel_rfl)
              have e1 : A.eval (.tmp 112) = .int .i64 X.2 := hI.get hd 4 112 rfl (by kernel_rfl)
              have e2 : A.eval (.tmp 113) = .int .i64 (Z.2 - X.2) := hI.get hd 5 113 rfl (by kernel_rfl)
              exact at_guard rfl rfl (j := 3) (k := 111) rfl (by omega) hg (bin_op rfl e1 e2 (fun w => by exact add64 _ _ _ _ _ (by omega) (by omega)) ⟨_, rfl, rfl, hI.g, Rel.refl _ _⟩)
            rcases ix with _ | ix
            · obtain rfl := (Option.some.inj hi).symm
              have hg : A.tmps.getD 111 undef = .bool true := hI.get hd 3 111 rfl (by kernel_rfl)
              have e : A.eval (.tmp 18) = .int .i64 Z.2 := hI.old 18 (by kernel_rfl)
              exact at_guard rfl rfl (j := 3) (k := 111) rfl (by omega) hg (move_op rfl ⟨_, rfl, e, hI.g, Rel.refl _ _⟩)
            rcases ix with _ | ix
            · obtain rfl := (Option.some.inj hi).symm
              have hg : A.tmps.getD 111 undef = .bool true := hI.get hd 3 111 rfl (by kernel_rfl)
              have e1 : A.eval (.tmp 114) = .int .i64 (X.2 + (Z.2 - X.2)) := hI.get hd 6 114 rfl (by kernel_rfl)
              have e2 : A.eval (.tmp 115) = .int .i64 Z.2 := hI.get hd 7 115 rfl (by kernel_rfl)
              exact at_guard rfl rfl (j := 3) (k := 111) rfl (by omega) hg (bin_op rfl e1 e2 (fun w => by exact eql64 _ _ _ _ _ (by omega)) ⟨_, rfl, rfl, hI.g, Rel.refl _ _⟩)
            rcases ix with _ | ix
            · obtain rfl := (Option.some.inj hi).symm
              have e1 : A.eval (.tmp 111) = .bool true := hI.get hd 3 111 rfl (by kernel_rfl)
              have e2 : A.eval (.tmp 116) = .bool true := hI.get hd 8 116 rfl (by kernel_rfl)
              exact at_op rfl rfl (pick_op rfl e1 ⟨_, rfl, e2, hI.g, Rel.refl _ _⟩)
            rcases ix with _ | ix
            · obtain rfl := (Option.some.inj hi).symm
              have e : A.eval (.tmp 117) = .bool true := hI.get hd 9 117 rfl (by kernel_rfl)
              exact at_op rfl rfl (move_op rfl ⟨_, rfl, e, hI.g, Rel.refl _ _⟩)
            rcases ix with _ | ix
            · obtain rfl := (Option.some.inj hi).symm
              have hg : A.tmps.getD 118 undef = .bool true := hI.get hd 10 118 rfl (by kernel_rfl)
              have e : A.eval (.tmp 19) = .pointer (some ⟨w14.heap.size + 1, 0, none⟩) := hI.old 19 (by kernel_rfl)
              exact at_guard rfl rfl (j := 10) (k := 118) rfl (by omega) hg (wp_load_row _ _ rfl _ e _ _ _ _ hI.g.r19.row und_tm rfl info_tm ⟨_, rfl, rfl, hI.g, Rel.refl _ _⟩)
            rcases ix with _ | ix
            · obtain rfl := (Option.some.inj hi).symm
              have hg : A.tmps.getD 118 undef = .bool true := hI.get hd 10 118 rfl (by kernel_rfl)
              have e : A.eval (.tmp 13) = .pointer (some ⟨w12.heap.size, 0, none⟩) := hI.old 13 (by kernel_rfl)
              exact at_guard rfl rfl (j := 10) (k := 118) rfl (by omega) hg (wp_load_row _ _ rfl _ e _ _ _ _ hI.g.r13.row und_tm rfl info_tm ⟨_, rfl, rfl, hI.g, Rel.refl _ _⟩)
            rcases ix with _ | ix
            · obtain rfl := (Option.some.inj hi).symm
              have hg : A.tmps.getD 118 undef = .bool true := hI.get hd 10 118 rfl (by kernel_rfl)
              have e1 : A.eval (.tmp 119) = .agg #[.int .i64 X.1.c, .int .i64 X.1.v, .int .i64 X.1.s, .int .i64 X.1.m] := hI.get hd 11 119 rfl (by kernel_rfl)
              have e2 : A.eval (.tmp 120) = .agg #[.int .i64 X.1.c, .int .i64 X.1.v, .int .i64 X.1.s, .int .i64 X.1.m] := hI.get hd 12 120 rfl (by kernel_rfl)
              exact at_guard rfl rfl (j := 10) (k := 118) rfl (by omega) hg (bin_op rfl e1 e2 (fun w => by simp [go_sem]) ⟨_, rfl, rfl, hI.g, Rel.refl _ _⟩)
            rcases ix with _ | ix
            · obtain rfl := (Option.some.inj hi).symm
              have e1 : A.eval (.tmp 118) = .bool true := hI.get hd 10 118 rfl (by kernel_rfl)
              have e2 : A.eval (.tmp 121) = .bool true := hI.get hd 13 121 rfl (by kernel_rfl)
              exact at_op rfl rfl (pick_op rfl e1 ⟨_, rfl, e2, hI.g, Rel.refl _ _⟩)
            rcases ix with _ | ix
            · obtain rfl := (Option.some.inj hi).symm
              have e : A.eval (.tmp 122) = .bool true := hI.get hd 14 122 rfl (by kernel_rfl)
              exact at_op rfl rfl (move_op rfl ⟨_, rfl, e, hI.g, Rel.refl _ _⟩)
            rcases ix with _ | ix
            · obtain rfl := (Option.some.inj hi).symm
              have hg : A.tmps.getD 123 undef = .bool true := hI.get hd 15 123 rfl (by kernel_rfl)
              have e : A.eval (.tmp 20) = .int .i64 X.2 := hI.old 20 (by kernel_rfl)
              exact at_guard rfl rfl (j := 15) (k := 123) rfl (by omega) hg (move_op rfl ⟨_, rfl, e, hI.g, Rel.refl _ _⟩)
            rcases ix with _ | ix
            · obtain rfl := (Option.some.inj hi).symm
              have hg : A.tmps.getD 123 undef = .bool true := hI.get hd 15 123 rfl (by kernel_rfl)
              have e : A.eval (.tmp 14) = .int .i64 X.2 := hI.old 14 (by kernel_rfl)
              exact at_guard rfl rfl (j := 15) (k := 123) rfl (by omega) hg (move_op rfl ⟨_, rfl, e, hI.g, Rel.refl _ _⟩)
            rcases ix with _ | ix
            · obtain rfl := (Option.some.inj hi).symm
              have hg : A.tmps.getD 123 undef = .bool true := hI.get hd 15 123 rfl (by kernel_rfl)
              have e1 : A.eval (.tmp 124) = .int .i64 X.2 := hI.get hd 16 124 rfl (by kernel_rfl)
              have e2 : A.eval (.tmp 125) = .int .i64 X.2 := hI.get hd 17 125 rfl (by kernel_rfl)
              exact at_guard rfl rfl (j := 15) (k := 123) rfl (by omega) hg (bin_op rfl e1 e2 (fun w => by exact eql64 _ _ _ _ _ rfl) ⟨_, rfl, rfl, hI.g, Rel.refl _ _⟩)
            rcases ix with _ | ix
            · obtain rfl := (Option.some.inj hi).symm
              have e1 : A.eval (.tmp 123) = .bool true := hI.get hd 15 123 rfl (by kernel_rfl)
              have e2 : A.eval (.tmp 126) = .bool true := hI.get hd 18 126 rfl (by kernel_rfl)
              exact at_op rfl rfl (pick_op rfl e1 ⟨_, rfl, e2, hI.g, Rel.refl _ _⟩)
            rcases ix with _ | ix
            · obtain rfl := (Option.some.inj hi).symm
              have e : A.eval (.tmp 127) = .bool true := hI.get hd 19 127 rfl (by kernel_rfl)
              exact at_op rfl rfl (move_op rfl ⟨_, rfl, e, hI.g, Rel.refl _ _⟩)
            rcases ix with _ | ix
            · obtain rfl := (Option.some.inj hi).symm
              have hg : A.tmps.getD 128 undef = .bool true := hI.get hd 20 128 rfl (by kernel_rfl)
              have e : A.eval (.tmp 17) = .pointer (some ⟨w14.heap.size, 0, none⟩) := hI.old 17 (by kernel_rfl)
              exact at_guard rfl rfl (j := 20) (k := 128) rfl (by omega) hg (wp_load_row _ _ rfl _ e _ _ _ _ hI.g.r17.row und_tm rfl info_tm ⟨_, rfl, rfl, hI.g, Rel.refl _ _⟩)
            rcases ix with _ | ix
            · obtain rfl := (Option.some.inj hi).symm
              have hg : A.tmps.getD 128 undef = .bool true := hI.get hd 20 128 rfl (by kernel_rfl)
              have e0 : A.eval (.tmp 129) = .agg #[.int .i64 Z.1.c, .int .i64 Z.1.v, .int .i64 Z.1.s, .int .i64 Z.1.m] := hI.get hd 21 129 rfl (by kernel_rfl)
              refine at_guard rfl rfl (j := 20) (k := 128) rfl (by omega) hg (call_op rfl Try.func11 (by kernel_rfl) (by kernel_rfl) ?_)
              simp only [List.map_cons, List.map_nil, e0]
              refine (timerOk_impl Z.1 W).mono ?_
              rintro e w5 ⟨rfl, hb5⟩
              rw [hZok]; exact ⟨_, rfl, _, rfl, rfl, hI.g.below hb5, Rel.below hb5⟩
            rcases ix with _ | ix
            · obtain rfl := (Option.some.inj hi).symm
              have e1 : A.eval (.tmp 128) = .bool true := hI.get hd 20 128 rfl (by kernel_rfl)
              have e2 : A.eval (.tmp 130) = .bool true := hI.get hd 22 130 rfl (by kernel_rfl)
              exact at_op rfl rfl (pick_op rfl e1 ⟨_, rfl, e2, hI.g, Rel.refl _ _⟩)
            rcases ix with _ | ix
            · obtain rfl := (Option.some.inj hi).symm
              have e : A.eval (.tmp 131) = .bool true := hI.get hd 23 131 rfl (by kernel_rfl)
              exact at_op rfl rfl (move_op rfl ⟨_, rfl, e, hI.g, Rel.refl _ _⟩)
            rcases ix with _ | ix
            · obtain rfl := (Option.some.inj hi).symm
              have hg : A.tmps.getD 132 undef = .bool true := hI.get hd 24 132 rfl (by kernel_rfl)
              have e : A.eval (.tmp 17) = .pointer (some ⟨w14.heap.size, 0, none⟩) := hI.old 17 (by kernel_rfl)
              refine at_guard rfl rfl (j := 24) (k := 132) rfl (by omega) hg (val_op (v := .pointer (some ⟨w14.heap.size, 0, none⟩)) ?_ ⟨_, rfl, rfl, hI.g, Rel.refl _ _⟩)
              unfold execOp
              simp only [List.getElem_toArray, List.getElem_cons_zero, List.getElem_cons_succ, e]
              simp [go_sem]
            rcases ix with _ | ix
            · obtain rfl := (Option.some.inj hi).symm
              have hg : A.tmps.getD 132 undef = .bool true := hI.get hd 24 132 rfl (by kernel_rfl)
              have e : A.eval (.tmp 133) = .pointer (some ⟨w14.heap.size, 0, none⟩) := hI.get hd 25 133 rfl (by kernel_rfl)
              exact at_guard rfl rfl (j := 24) (k := 132) rfl (by omega) hg (load_op rfl Try.underlying2 e (show W.cell? ⟨w14.heap.size, 0, none⟩ = some (.int .i64 Z.1.c) from hI.g.r17.cell 0) ⟨_, rfl, rfl, hI.g, Rel.refl _ _⟩)
            rcases ix with _ | ix
            · obtain rfl := (Option.some.inj hi).symm
              have hg : A.tmps.getD 132 undef = .bool true := hI.get hd 24 132 rfl (by kernel_rfl)
              have e : A.eval (.tmp 10) = .pointer (some ⟨w9.heap.size, 0, none⟩) := hI.old 10 (by kernel_rfl)
              refine at_guard rfl rfl (j := 24) (k := 132) rfl (by omega) hg (val_op (v := .pointer (some ⟨w9.heap.size, 0, none⟩)) ?_ ⟨_, rfl, rfl, hI.g, Rel.refl _ _⟩)
              unfold execOp
              simp only [List.getElem_toArray, List.getElem_cons_zero, List.getElem_cons_succ, e]
              simp [go_sem]
            rcases ix with _ | ix
            · obtain rfl := (Option.some.inj hi).symm
              have hg : A.tmps.getD 132 undef = .bool true := hI.get hd 24 132 rfl (by kernel_rfl)
              have e : A.eval (.tmp 135) = .pointer (some ⟨w9.heap.size, 0, none⟩) := hI.get hd 27 135 rfl (by kernel_rfl)
              exact at_guard rfl rfl (j := 24) (k := 132) rfl (by omega) hg (load_op rfl Try.underlying2 e (show W.cell? ⟨w9.heap.size, 0, none⟩ = some (.int .i64 U.c) from hI.g.r10.cell 0) ⟨_, rfl, rfl, hI.g, Rel.refl _ _⟩)
            rcases ix with _ | ix
            · obtain rfl := (Option.some.inj hi).symm
              have hg : A.tmps.getD 132 undef = .bool true := hI.get hd 24 132 rfl (by kernel_rfl)
              have e : A.eval (.tmp 11) = .int .i64 (k : Int) := hI.old 11 (by kernel_rfl)
              exact at_guard rfl rfl (j := 24) (k := 132) rfl (by omega) hg (move_op rfl ⟨_, rfl, e, hI.g, Rel.refl _ _⟩)
            rcases ix with _ | ix
            · obtain rfl := (Option.some.inj hi).symm
              have hg : A.tmps.getD 132 undef = .bool true := hI.get hd 24 132 rfl (by kernel_rfl)
              have e1 : A.eval (.tmp 136) = .int .i64 U.c := hI.get hd 28 136 rfl (by kernel_rfl)
              have e2 : A.eval (.tmp 137) = .int .i64 (k : Int) := hI.get hd 29 137 rfl (by kernel_rfl)
              exact at_guard rfl rfl (j := 24) (k := 132) rfl (by omega) hg (bin_op rfl e1 e2 (fun w => by exact add64 _ _ _ _ _ (by omega) (by omega)) ⟨_, rfl, rfl, hI.g, Rel.refl _ _⟩)
            rcases ix with _ | ix
            · obtain rfl := (Option.some.inj hi).symm
              have hg : A.tmps.getD 132 undef = .bool true := hI.get hd 24 132 rfl (by kernel_rfl)
              have e : A.eval (.tmp 12) = .int .i64 (j : Int) := hI.old 12 (by kernel_rfl)
              exact at_guard rfl rfl (j := 24) (k := 132) rfl (by omega) hg (move_op rfl ⟨_, rfl, e, hI.g, Rel.refl _ _⟩)
            rcases ix with _ | ix
            · obtain rfl := (Option.some.inj hi).symm
              have hg : A.tmps.getD 132 undef = .bool true := hI.get hd 24 132 rfl (by kernel_rfl)
              have e1 : A.eval (.tmp 138) = .int .i64 (U.c + (k : Int)) := hI.get hd 30 138 rfl (by kernel_rfl)
              have e2 : A.eval (.tmp 139) = .int .i64 (j : Int) := hI.get hd 31 139 rfl (by kernel_rfl)
              exact at_guard rfl rfl (j := 24) (k := 132) rfl (by omega) hg (bin_op rfl e1 e2 (fun w => by exact add64 _ _ _ _ _ (by omega) (by omega)) ⟨_, rfl, rfl, hI.g, Rel.refl _ _⟩)
            rcases ix with _ | ix
            · obtain rfl := (Option.some.inj hi).symm
              have hg : A.tmps.getD 132 undef = .bool true := hI.get hd 24 132 rfl (by kernel_rfl)
              have e1 : A.eval (.tmp 134) = .int .i64 Z.1.c := hI.get hd 26 134 rfl (by kernel_rfl)
              have e2 : A.eval (.tmp 140) = .int .i64 (U.c + (k : Int) + (j : Int)) := hI.get hd 32 140 rfl (by kernel_rfl)
              exact at_guard rfl rfl (j := 24) (k := 132) rfl (by omega) hg (bin_op rfl e1 e2 (fun w => by exact eql64 _ _ _ _ _ (by omega)) ⟨_, rfl, rfl, hI.g, Rel.refl _ _⟩)
            rcases ix with _ | ix
            · obtain rfl := (Option.some.inj hi).symm
              have e1 : A.eval (.tmp 132) = .bool true := hI.get hd 24 132 rfl (by kernel_rfl)
              have e2 : A.eval (.tmp 141) = .bool true := hI.get hd 33 141 rfl (by kernel_rfl)
              exact at_op rfl rfl (pick_op rfl e1 ⟨_, rfl, e2, hI.g, Rel.refl _ _⟩)
            rcases ix with _ | ix
            · obtain rfl := (Option.some.inj hi).symm
              have e : A.eval (.tmp 142) = .bool true := hI.get hd 34 142 rfl (by kernel_rfl)
              exact at_op rfl rfl (move_op rfl ⟨_, rfl, e, hI.g, Rel.refl _ _⟩)
            rcases ix with _ | ix
            · obtain rfl := (Option.some.inj hi).symm
              have hg : A.tmps.getD 143 undef = .bool true := hI.get hd 35 143 rfl (by kernel_rfl)
              have e : A.eval (.tmp 10) = .pointer (some ⟨w9.heap.size, 0, none⟩) := hI.old 10 (by kernel_rfl)
              refine at_guard rfl rfl (j := 35) (k := 143) rfl (by omega) hg (val_op (v := .pointer (some ⟨w9.heap.size, 3, none⟩)) ?_ ⟨_, rfl, rfl, hI.g, Rel.refl _ _⟩)
              unfold execOp
              simp only [List.getElem_toArray, List.getElem_cons_zero, List.getElem_cons_succ, e]
              simp [go_sem]
            rcases ix with _ | ix
            · obtain rfl := (Option.some.inj hi).symm
              have hg : A.tmps.getD 143 undef = .bool true := hI.get hd 35 143 rfl (by kernel_rfl)
              have e : A.eval (.tmp 144) = .pointer (some ⟨w9.heap.size, 3, none⟩) := hI.get hd 36 144 rfl (by kernel_rfl)
              exact at_guard rfl rfl (j := 35) (k := 143) rfl (by omega) hg (load_op rfl Try.underlying2 e (show W.cell? ⟨w9.heap.size, 3, none⟩ = some (.int .i64 U.m) from hI.g.r10.cell 3) ⟨_, rfl, rfl, hI.g, Rel.refl _ _⟩)
            rcases ix with _ | ix
            · obtain rfl := (Option.some.inj hi).symm
              have hg : A.tmps.getD 143 undef = .bool true := hI.get hd 35 143 rfl (by kernel_rfl)
              have e0 : A.eval (.tmp 145) = .int .i64 U.m := hI.get hd 37 145 rfl (by kernel_rfl)
              refine at_guard rfl rfl (j := 35) (k := 143) rfl (by omega) hg (call_op rfl Try.func15 (by kernel_rfl) (by kernel_rfl) ?_)
              simp only [List.map_cons, List.map_nil, e0]
              refine (rateOf_impl U.m W).mono ?_
              rintro e w5 ⟨rfl, rfl⟩
              exact ⟨_, rfl, _, rfl, rfl, hI.g, Rel.refl _ _⟩
            rcases ix with _ | ix
            · obtain rfl := (Option.some.inj hi).symm
              have hg : A.tmps.getD 143 undef = .bool true := hI.get hd 35 143 rfl (by kernel_rfl)
              have e : A.eval (.tmp 10) = .pointer (some ⟨w9.heap.size, 0, none⟩) := hI.old 10 (by kernel_rfl)
              refine at_guard rfl rfl (j := 35) (k := 143) rfl (by omega) hg (val_op (v := .pointer (some ⟨w9.heap.size, 3, none⟩)) ?_ ⟨_, rfl, rfl, hI.g, Rel.refl _ _⟩)
              unfold execOp
              simp only [List.getElem_toArray, List.getElem_cons_zero, List.getElem_cons_succ, e]
              simp [go_sem]
            rcases ix with _ | ix
            · obtain rfl := (Option.some.inj hi).symm
              have hg : A.tmps.getD 143 undef = .bool true := hI.get hd 35 143 rfl (by kernel_rfl)
              have e : A.eval (.tmp 147) = .pointer (some ⟨w9.heap.size, 3, none⟩) := hI.get hd 39 147 rfl (by kernel_rfl)
              exact at_guard rfl rfl (j := 35) (k := 143) rfl (by omega) hg (load_op rfl Try.underlying2 e (show W.cell? ⟨w9.heap.size, 3, none⟩ = some (.int .i64 U.m) from hI.g.r10.cell 3) ⟨_, rfl, rfl, hI.g, Rel.refl _ _⟩)
            rcases ix with _ | ix
            · obtain rfl := (Option.some.inj hi).symm
              have hg : A.tmps.getD 143 undef = .bool true := hI.get hd 35 143 rfl (by kernel_rfl)
              have e0 : A.eval (.tmp 148) = .int .i64 U.m := hI.get hd 40 148 rfl (by kernel_rfl)
              refine at_guard rfl rfl (j := 35) (k := 143) rfl (by omega) hg (call_op rfl Try.func16 (by kernel_rfl) (by kernel_rfl) ?_)
              simp only [List.map_cons, List.map_nil, e0]
              refine (rateOf_spec U.m W).mono ?_
              rintro e w5 ⟨rfl, rfl⟩
              exact ⟨_, rfl, _, rfl, rfl, hI.g, Rel.refl _ _⟩
            rcases ix with _ | ix
            · obtain rfl := (Option.some.inj hi).symm
              have hg : A.tmps.getD 143 undef = .bool true := hI.get hd 35 143 rfl (by kernel_rfl)
              have e1 : A.eval (.tmp 146) = .int .i64 (rate U.m) := hI.get hd 38 146 rfl (by kernel_rfl)
              have e2 : A.eval (.tmp 149) = .int .i64 (rate U.m) := hI.get hd 41 149 rfl (by kernel_rfl)
              exact at_guard rfl rfl (j := 35) (k := 143) rfl (by omega) hg (bin_op rfl e1 e2 (fun w => by exact eql64 _ _ _ _ _ rfl) ⟨_, rfl, rfl, hI.g, Rel.refl _ _⟩)
            rcases ix with _ | ix
            · obtain rfl := (Option.some.inj hi).symm
              have e1 : A.eval (.tmp 143) = .bool true := hI.get hd 35 143 rfl (by kernel_rfl)
              have e2 : A.eval (.tmp 150) = .bool true := hI.get hd 42 150 rfl (by kernel_rfl)
              exact at_op rfl rfl (pick_op rfl e1 ⟨_, rfl, e2, hI.g, Rel.refl _ _⟩)
            rcases ix with _ | ix
            · obtain rfl := (Option.some.inj hi).symm
              have e : A.eval (.tmp 151) = .bool true := hI.get hd 43 151 rfl (by kernel_rfl)
              exact at_op rfl rfl (assign_op rfl ⟨_, rfl, e, hI.g, Rel.refl _ _⟩)
            omega
          case done =>
            intro A W hI
            have e2 : A.tmps.getD 2 undef = .bool true := hI.slot 44 2 rfl rfl
            have hA := frame_lit A 152 hI.size
            have hg := hI.g
            have hde : A.defers = [] := hI.defers
            rw [hde, show List.range 152 = [0, 1, 2, 3, 4, 5, 6, 7, 8, 9, 10, 11, 12, 13, 14, 15, 16, 17, 18, 19, 20, 21, 22, 23, 24, 25, 26, 27, 28, 29, 30, 31, 32, 33, 34, 35, 36, 37, 38, 39, 40, 41, 42, 43, 44, 45, 46, 47, 48, 49, 50, 51, 52, 53, 54, 55, 56, 57, 58, 59, 60, 61, 62, 63, 64, 65, 66, 67, 68, 69, 70, 71, 72, 73, 74, 75, 76, 77, 78, 79, 80, 81, 82, 83, 84, 85, 86, 87, 88, 89, 90, 91, 92, 93, 94, 95, 96, 97, 98, 99, 100, 101, 102, 103, 104, 105, 106, 107, 108, 109, 110, 111, 112, 113, 114, 115, 116, 117, 118, 119, 120, 121, 122, 123, 124, 125, 126, 127, 128, 129, 130, 131, 132, 133, 134, 135, 136, 137, 138, 139, 140, 141, 142, 143, 144, 145, 146, 147, 148, 149, 150, 151] from rfl] at hA
            simp only [List.map_cons, List.map_nil, e2] at hA
            rw [hA]
            clear hA e2 hI hde
            go_wp2
            go_ret
            exact ⟨rfl, hg.bel⟩
  · have hs : decide ((4096 : Int) < (len : Int)) = true := by simp; omega
    go_enter Try.func3, Try.ntmps3
    go_wp2_with (go_at_call 7; refine (big_any _ _ _ _).mono ?_; rintro e w1 ⟨rfl, rfl⟩; rw [hs])
    go_ret
    exact ⟨rfl, Below.refl _ _⟩
end Go.Proofs.Ytilkkmnpmmodoaa.Tmr
