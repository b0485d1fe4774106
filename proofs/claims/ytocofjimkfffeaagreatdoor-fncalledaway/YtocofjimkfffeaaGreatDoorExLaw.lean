/-
  FnExecuted: an operation costs what its line tells; a machine that is stuck, or halted, stays so.
-/
import Derived.Test.YtocofjimkfffeaaGreatDoorMcMem
import Derived.Test.YtocofjimkfffeaaGreatDoorXd
import Derived.Test.YtocofjimkfffeaaGreatDoorCp
import Derived.Test.YtocofjimkfffeaaGreatDoorIqDraw
namespace Go.Proofs.YtocofjimkfffeaaGreatDoor.Mem
open Go.ChangeShapes Go.WideShapes Go.RowKit Base Draw Slc Num Rw Tmr Srl Rom RomOf Reg Opl
set_option linter.unusedVariables false
set_option linter.unusedSimpArgs false

/-- Three machines that are kept: one drawn, and two answers that read alike. -/
structure G3 (w : World) (gA gB gC : Nat) (x y ar aa br ba : Value) (M N : Mc) (W : World) : Prop where
  A : MRow W gA x y M
  B : MRow W gB ar aa N
  C : MRow W gC br ba N
  a1 : Sl W x M.rom
  a2 : Sl W y M.ram
  b1 : Sl W ar N.rom
  b2 : Sl W aa N.ram
  c1 : Sl W br N.rom
  c2 : Sl W ba N.ram
  bel : Below w.heap.size w W
theorem G3.below {w W W' : World} {gA gB gC : Nat} {x y ar aa br ba : Value} {M N : Mc} (h : G3 w gA gB gC x y ar aa br ba M N W) (hb : Below W.heap.size W W') : G3 w gA gB gC x y ar aa br ba M N W' :=
  ⟨h.A.below hb, h.B.below hb, h.C.below hb, h.a1.below hb, h.a2.below hb, h.b1.below hb, h.b2.below hb, h.c1.below hb, h.c2.below hb, below_more h.bel hb⟩
/-- A variable of one's own is made and filled: nothing old has turned. -/
theorem new_below {w3 w4 w5 : World} (hb : Below w3.heap.size w3 w4) (ho : Onto w3.heap.size w4 w5) : Below w3.heap.size w3 w5 := below_onto hb ho (Nat.le_refl _)
set_option maxRecDepth 20000 in
set_option maxHeartbeats 4000000 in
theorem executed_any (a : Option Addr) (len cap : Nat) (w : World) (hc : CodeAt w a len) (ho : OpsAt w) :
    Calls Tryz.prog 3 #[.slice a len cap] w fun e w' => e = .returned (.bool true) ∧ Below w.heap.size w w' := by
  by_cases hl : len ≤ 4096
  · have hs : decide ((4096 : Int) < (len : Int)) = false := by simp; omega
    go_enter Tryz.func3, Tryz.ntmps3
    go_wp2_with (go_at_call 5; refine (big_m _ _ _ _).mono ?_; rintro e w0 ⟨rfl, rfl⟩; rw [hs])
    go_at_call 6
    refine (drawExecuted_any a len cap _ hc hl).mono ?_
    rintro e w1 ⟨x, y, M, rfl, hm1, hB_1⟩
    have a1_1 := hm1.s1
    have a2_1 := hm1.s2
    obtain ⟨N, C, O, hN⟩ : ∃ N C O, M.execd = (N, C, O) := ⟨_, _, _, rfl⟩
    have HN : Hid (M.execd = (N, C, O)) := hN
    clear hN
    go_wp2_with (first
      | (refine al_mc rfl rfl ?_; intro w2 z2 hb2)
      | (refine st_mc rfl rfl rfl rfl z2 (one_sl hm1.s1) (one_sl hm1.s2) ?_; rintro w3 A_3 o3 -; have hn3 := new_below hb2 o3; have a1_3 := a1_1.below hn3; have a2_3 := a2_1.below hn3; have hB_3 := below_more hB_1 hn3)
      | (refine ld_mc rfl rfl rfl A_3 ?_))
    go_at_call 7
    refine (executed_impl' HN.out _ _ ⟨x, y, rfl, a1_3, a2_3⟩ (ho.below hB_3)).mono ?_
    rintro e w4 ⟨v4, rfl, ⟨ar, aa, rfl, hp1, hp2, hp3⟩, hb4⟩
    have A_4 := A_3.below hb4
    have a1_4 := a1_3.below hb4
    have a2_4 := a2_3.below hb4
    have hB_4 := below_more hB_3 hb4
    have b1_4 := hp1.sl
    have b2_4 := hp2.sl
    go_wp2_with (first
      | (refine al_mc rfl rfl ?_; intro w5 z5 hb5)
      | (refine st_mc rfl rfl rfl rfl z5 (one_own hp1) (one_own hp2) ?_; rintro w6 B_6 o6 -; have hn6 := new_below hb5 o6; have A_6 := A_4.below hn6; have a1_6 := a1_4.below hn6; have a2_6 := a2_4.below hn6; have b1_6 := b1_4.below hn6; have b2_6 := b2_4.below hn6; have hB_6 := below_more hB_4 hn6)
      | (refine ld_mc rfl rfl rfl A_6 ?_))
    go_at_call 8
    refine (executed_spec' HN.out _ _ ⟨x, y, rfl, a1_6, a2_6⟩).mono ?_
    rintro e w7 ⟨v7, rfl, ⟨br, ba, rfl, hq1, hq2, hq3⟩, hb7⟩
    have A_7 := A_6.below hb7
    have B_7 := B_6.below hb7
    have a1_7 := a1_6.below hb7
    have a2_7 := a2_6.below hb7
    have b1_7 := b1_6.below hb7
    have b2_7 := b2_6.below hb7
    have hB_7 := below_more hB_6 hb7
    have c1_7 := hq1.sl
    have c2_7 := hq2.sl
    go_wp2_with (first
      | (refine al_mc rfl rfl ?_; intro w8 z8 hb8)
      | (refine st_mc rfl rfl rfl rfl z8 (one_own hq1) (one_own hq2) ?_; rintro w9 C_9 o9 -; have hn9 := new_below hb8 o9; have hG : G3 w0 w1.heap.size w4.heap.size w7.heap.size x y ar aa br ba M N w9 := ⟨A_7.below hn9, B_7.below hn9, C_9, a1_7.below hn9, a2_7.below hn9, b1_7.below hn9, b2_7.below hn9, c1_7.below hn9, c2_7.below hn9, below_more hB_7 hn9⟩)
      | (refine ld_mc rfl rfl rfl hG.B ?_)
      | (refine ld_mc rfl rfl rfl hG.C ?_))
    clear a1_1 a2_1 A_3 a1_3 a2_3 A_4 a1_4 a2_4 b1_4 b2_4 A_6 B_6 a1_6 a2_6 b1_6 b2_6 A_7 B_7 a1_7 a2_7 b1_7 b2_7 c1_7 c2_7 hp1 hp2 hp3 hq1 hq2 hq3 z2 z5 z8 o3 o6 o9 hn3 hn6 hn9 hB_1 hB_3 hB_4 hB_6 hB_7 C_9 hm1 hb2 hb4 hb5 hb7 hb8
    go_at_call 9
    refine (likeMachine_same ar aa br ba N _ hG.b1 hG.b2 hG.c1 hG.c2).mono ?_
    rintro e w10 ⟨rfl, hb10⟩
    replace hG := hG.below hb10
    clear hb10
    go_wp2_with (refine ld_mc rfl rfl rfl hG.A ?_)
    go_at_call 10
    refine (machineOk_spec _ M _ ⟨x, y, rfl, hG.a1, hG.a2⟩).mono ?_
    rintro e w11 ⟨rfl, hb11⟩
    replace hG := hG.below hb11
    clear hb11
    cases hok : M.ok
    · have hx : C = 0 ∧ O = -1 := by
        have := HN.out
        simp only [Mc.execd, hok, Bool.false_eq_true, if_false, Prod.mk.injEq] at this
        exact ⟨this.2.1.symm, this.2.2.symm⟩
      obtain ⟨rfl, rfl⟩ := hx
      go_wp2
      go_ret
      exact ⟨rfl, hG.bel⟩
    · have hx : M.exec = (N, C, O) := by
        have := HN.out
        rw [Mc.execd, hok, if_pos rfl] at this
        exact this
      cases hi : (M.h || M.s)
      · have hh : M.h = false := by simp at hi; exact hi.1
        have hss : M.s = false := by simp at hi; exact hi.2
        have hcd : M.readAt M.pc = M.code := readAt_ok hok (okm.1 hok).pc
        have k1 := (cw hG.A).s
        have k2 := (cw hG.A).h
        have k3 := (cw hG.A).pc
        rw [hss] at k1
        rw [hh] at k2
        go_wp2_with (refine ld_mc rfl rfl rfl hG.A ?_)
        go_at_call 11
        refine (readAt_spec _ M _ _ ⟨x, y, rfl, hG.a1, hG.a2⟩).mono ?_
        rw [hcd]
        rintro e w12 ⟨rfl, hb12⟩
        replace hG := hG.below hb12
        clear k1 k2 k3 hb12
        go_wp2_with fail
        go_at_call 12
        refine (nameOf_impl _ _ (ho.below hG.bel)).mono ?_
        rintro e w13 ⟨rfl, hb13⟩
        replace hG := hG.below hb13
        clear hb13
        by_cases hnm : (line M.code).1 = []
        · have hex := exec_none hi hnm
          rw [hx] at hex
          simp only [Prod.mk.injEq] at hex
          obtain ⟨rfl, rfl, rfl⟩ := hex
          rw [hnm]
          have k1 : w13.cell? ⟨w4.heap.size, 10, none⟩ = some (.bool true) := (cw hG.B).s
          have k2 : w13.cell? ⟨w4.heap.size, 4, none⟩ = some (.int .i64 M.pc) := (cw hG.B).pc
          have k3 : w13.cell? ⟨w1.heap.size, 4, none⟩ = some (.int .i64 M.pc) := (cw hG.A).pc
          go_wp2
          go_ret
          exact ⟨rfl, hG.bel⟩
        · have hex := exec_cost hi hnm
          rw [hx] at hex
          have hlk := exec_like hok
          rw [hx] at hlk
          obtain ⟨hNo, hNk, hNt⟩ := hlk
          have hCC : C = (line M.code).2.2 := hex
          have HC : Hid (C = (line M.code).2.2) := hCC
          have hNo' : N.ok = true := hNo
          have hse : (line M.code).1.isEmpty = false := by simpa using hnm
          generalize (line M.code).1 = nm at hse ⊢
          clear hex hCC hx hnm
          have k2 : w13.cell? ⟨w4.heap.size, 24, none⟩ = some (.int .i64 N.k) := (cw hG.B).k
          have k3 : w13.cell? ⟨w1.heap.size, 24, none⟩ = some (.int .i64 M.k) := (cw hG.A).k
          go_wp2_with fail
          go_at_call 13
          refine (costOf_impl _ _ (ho.below hG.bel)).mono ?_
          rw [← HC.out]
          rintro e w14 ⟨rfl, hb14⟩
          replace hG := hG.below hb14
          clear k2 k3 hb14
          go_wp2_with (refine ld_mcg rfl rfl rfl hG.B ?_)
          go_at_call 14
          refine (machineOk_impl _ N _ ⟨ar, aa, rfl, hG.b1, hG.b2⟩).mono ?_
          rw [hNo']
          rintro e w15 ⟨rfl, hb15⟩
          replace hG := hG.below hb15
          have k2 : w15.cell? ⟨w4.heap.size, 24, none⟩ = some (.int .i64 N.k) := (cw hG.B).k
          have k3 : w15.cell? ⟨w1.heap.size, 24, none⟩ = some (.int .i64 M.k) := (cw hG.A).k
          have k4 : w15.cell? ⟨w4.heap.size, 14, none⟩ = some (.int .i64 N.t.c) := (cw hG.B).tc
          have k5 : w15.cell? ⟨w1.heap.size, 14, none⟩ = some (.int .i64 M.t.c) := (cw hG.A).tc
          have e1 : N.k = M.k := hNk
          have e2 : N.t.c = M.t.c := hNt
          rw [e1] at k2
          rw [e2] at k4
          clear hNk hNt e1 e2
          go_wp2
          go_ret
          exact ⟨rfl, hG.bel⟩
      · have hex := exec_idle hi
        rw [hx] at hex
        simp only [Prod.mk.injEq] at hex
        obtain ⟨rfl, rfl, rfl⟩ := hex
        have k1 := (cw hG.A).s
        have k2 := (cw hG.A).h
        cases hss : N.s
        · have hh : N.h = true := by rw [hss] at hi; simpa using hi
          rw [hss] at k1
          rw [hh] at k2
          go_wp2_with (first
            | (refine ld_mcg rfl rfl rfl hG.B ?_)
            | (refine ld_mcg rfl rfl rfl hG.A ?_)
            | (go_at_call 9; refine (likeMachine_same ar aa x y N _ hG.b1 hG.b2 hG.a1 hG.a2).mono ?_; rintro e w12 ⟨rfl, hb12⟩))
          go_ret
          exact ⟨rfl, below_more hG.bel hb12⟩
        · rw [hss] at k1
          go_wp2_with (first
            | (refine ld_mcg rfl rfl rfl hG.B ?_)
            | (refine ld_mcg rfl rfl rfl hG.A ?_)
            | (go_at_call 9; refine (likeMachine_same ar aa x y N _ hG.b1 hG.b2 hG.a1 hG.a2).mono ?_; rintro e w12 ⟨rfl, hb12⟩))
          go_ret
          exact ⟨rfl, below_more hG.bel hb12⟩
  · have hs : decide ((4096 : Int) < (len : Int)) = true := by simp; omega
    go_enter Tryz.func3, Tryz.ntmps3
    go_wp2_with (go_at_call 5; refine (big_m _ _ _ _).mono ?_; rintro e w0 ⟨rfl, rfl⟩; rw [hs])
    go_ret
    exact ⟨rfl, Below.refl _ _⟩
end Go.Proofs.YtocofjimkfffeaaGreatDoor.Mem
