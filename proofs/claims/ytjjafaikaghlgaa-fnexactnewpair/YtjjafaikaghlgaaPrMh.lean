/-
  Marks in lists of machines, found again.
-/
import Derived.Test.YtjjafaikaghlgaaPrMm
namespace Go.Proofs.Ytjjafaikaghlgaa.Mem
open Go.ChangeShapes Go.WideShapes Go.RowKit Base Num Slc Slf Rw Tmr Reg Ex
set_option linter.unusedVariables false
set_option linter.unusedSimpArgs false
set_option maxRecDepth 20000

theorem mk23_at (Q : Nat) (M m : Mc) (a0 a1 : Option Addr) (c0 c1 : Nat) : (fIMc.F ((Mc.mk23 Q M).val (.slice a0 m.rom.length c0) (.slice a1 m.ram.length c1)))[0]? = some (.slice a0 m.rom.length c0) ∧ (fIMc.F ((Mc.mk23 Q M).val (.slice a0 m.rom.length c0) (.slice a1 m.ram.length c1)))[1]? = some (.slice a1 m.ram.length c1) ∧ (fIMc.F ((Mc.mk23 Q M).val (.slice a0 m.rom.length c0) (.slice a1 m.ram.length c1)))[2]? = some (.int .i64 ((Q : Int))) ∧ (fIMc.F ((Mc.mk23 Q M).val (.slice a0 m.rom.length c0) (.slice a1 m.ram.length c1)))[3]? = some (.int .i64 ((Q : Int) + 1)) ∧ (fIMc.F ((Mc.mk23 Q M).val (.slice a0 m.rom.length c0) (.slice a1 m.ram.length c1)))[4]? = some (.int .i64 ((Q : Int) + 1 + 1)) ∧ (fIMc.F ((Mc.mk23 Q M).val (.slice a0 m.rom.length c0) (.slice a1 m.ram.length c1)))[5]? = some (.int .i64 ((Q : Int) + 1 + 1 + 1)) ∧ (fIMc.F ((Mc.mk23 Q M).val (.slice a0 m.rom.length c0) (.slice a1 m.ram.length c1)))[6]? = some (.bool ((((Q : Int) + 1 + 1 + 1 + 1).tmod 3) == 0)) ∧ (fIMc.F ((Mc.mk23 Q M).val (.slice a0 m.rom.length c0) (.slice a1 m.ram.length c1)))[7]? = some (.bool ((((Q : Int) + 1 + 1 + 1 + 1 + 1).tmod 3) == 0)) ∧ (fIMc.F ((Mc.mk23 Q M).val (.slice a0 m.rom.length c0) (.slice a1 m.ram.length c1)))[8]? = some (.bool ((((Q : Int) + 1 + 1 + 1 + 1 + 1 + 1).tmod 3) == 0)) ∧ (fIMc.F ((Mc.mk23 Q M).val (.slice a0 m.rom.length c0) (.slice a1 m.ram.length c1)))[9]? = some (.bool ((((Q : Int) + 1 + 1 + 1 + 1 + 1 + 1 + 1).tmod 3) == 0)) ∧ (fIMc.F ((Mc.mk23 Q M).val (.slice a0 m.rom.length c0) (.slice a1 m.ram.length c1)))[10]? = some (.bool ((((Q : Int) + 1 + 1 + 1 + 1 + 1 + 1 + 1 + 1).tmod 3) == 0)) ∧ (fIMc.F ((Mc.mk23 Q M).val (.slice a0 m.rom.length c0) (.slice a1 m.ram.length c1)))[11]? = some (.int .i64 ((Q : Int) + 1 + 1 + 1 + 1 + 1 + 1 + 1 + 1 + 1)) ∧ (fIMc.F ((Mc.mk23 Q M).val (.slice a0 m.rom.length c0) (.slice a1 m.ram.length c1)))[12]? = some (.int .i64 ((Q : Int) + 1 + 1 + 1 + 1 + 1 + 1 + 1 + 1 + 1 + 1)) ∧ (fIMc.F ((Mc.mk23 Q M).val (.slice a0 m.rom.length c0) (.slice a1 m.ram.length c1)))[13]? = some (.int .i64 ((Q : Int) + 1 + 1 + 1 + 1 + 1 + 1 + 1 + 1 + 1 + 1 + 1)) ∧ (fIMc.F ((Mc.mk23 Q M).val (.slice a0 m.rom.length c0) (.slice a1 m.ram.length c1)))[14]? = some (.int .i64 ((Q : Int) + 1 + 1 + 1 + 1 + 1 + 1 + 1 + 1 + 1 + 1 + 1 + 1)) ∧ (fIMc.F ((Mc.mk23 Q M).val (.slice a0 m.rom.length c0) (.slice a1 m.ram.length c1)))[15]? = some (.int .i64 ((Q : Int) + 1 + 1 + 1 + 1 + 1 + 1 + 1 + 1 + 1 + 1 + 1 + 1 + 1)) ∧ (fIMc.F ((Mc.mk23 Q M).val (.slice a0 m.rom.length c0) (.slice a1 m.ram.length c1)))[16]? = some (.int .i64 ((Q : Int) + 1 + 1 + 1 + 1 + 1 + 1 + 1 + 1 + 1 + 1 + 1 + 1 + 1 + 1)) ∧ (fIMc.F ((Mc.mk23 Q M).val (.slice a0 m.rom.length c0) (.slice a1 m.ram.length c1)))[17]? = some (.int .i64 ((Q : Int) + 1 + 1 + 1 + 1 + 1 + 1 + 1 + 1 + 1 + 1 + 1 + 1 + 1 + 1 + 1)) ∧ (fIMc.F ((Mc.mk23 Q M).val (.slice a0 m.rom.length c0) (.slice a1 m.ram.length c1)))[18]? = some (.int .i64 ((Q : Int) + 1 + 1 + 1 + 1 + 1 + 1 + 1 + 1 + 1 + 1 + 1 + 1 + 1 + 1 + 1 + 1)) ∧ (fIMc.F ((Mc.mk23 Q M).val (.slice a0 m.rom.length c0) (.slice a1 m.ram.length c1)))[19]? = some (.bool ((((Q : Int) + 1 + 1 + 1 + 1 + 1 + 1 + 1 + 1 + 1 + 1 + 1 + 1 + 1 + 1 + 1 + 1 + 1).tmod 3) == 0)) ∧ (fIMc.F ((Mc.mk23 Q M).val (.slice a0 m.rom.length c0) (.slice a1 m.ram.length c1)))[20]? = some (.bool ((((Q : Int) + 1 + 1 + 1 + 1 + 1 + 1 + 1 + 1 + 1 + 1 + 1 + 1 + 1 + 1 + 1 + 1 + 1 + 1).tmod 3) == 0)) ∧ (fIMc.F ((Mc.mk23 Q M).val (.slice a0 m.rom.length c0) (.slice a1 m.ram.length c1)))[21]? = some (.int .i64 ((Q : Int) + 1 + 1 + 1 + 1 + 1 + 1 + 1 + 1 + 1 + 1 + 1 + 1 + 1 + 1 + 1 + 1 + 1 + 1 + 1)) ∧ (fIMc.F ((Mc.mk23 Q M).val (.slice a0 m.rom.length c0) (.slice a1 m.ram.length c1)))[22]? = some (.int .i64 ((Q : Int) + 1 + 1 + 1 + 1 + 1 + 1 + 1 + 1 + 1 + 1 + 1 + 1 + 1 + 1 + 1 + 1 + 1 + 1 + 1 + 1)) ∧ (fIMc.F ((Mc.mk23 Q M).val (.slice a0 m.rom.length c0) (.slice a1 m.ram.length c1)))[23]? = some (.bool ((((Q : Int) + 1 + 1 + 1 + 1 + 1 + 1 + 1 + 1 + 1 + 1 + 1 + 1 + 1 + 1 + 1 + 1 + 1 + 1 + 1 + 1 + 1).tmod 3) == 0)) ∧ (fIMc.F ((Mc.mk23 Q M).val (.slice a0 m.rom.length c0) (.slice a1 m.ram.length c1)))[24]? = some (.int .i64 ((Q : Int) + 1 + 1 + 1 + 1 + 1 + 1 + 1 + 1 + 1 + 1 + 1 + 1 + 1 + 1 + 1 + 1 + 1 + 1 + 1 + 1 + 1 + 1)) :=
  ⟨by kernel_rfl, by kernel_rfl, by kernel_rfl, by kernel_rfl, by kernel_rfl, by kernel_rfl, by kernel_rfl, by kernel_rfl, by kernel_rfl, by kernel_rfl, by kernel_rfl, by kernel_rfl, by kernel_rfl, by kernel_rfl, by kernel_rfl, by kernel_rfl, by kernel_rfl, by kernel_rfl, by kernel_rfl, by kernel_rfl, by kernel_rfl, by kernel_rfl, by kernel_rfl, by kernel_rfl, by kernel_rfl⟩
set_option maxHeartbeats 64000000 in
set_option maxRecDepth 1000000 in
theorem heldMcs_any (v : Value) (ls : List Mc) (k : Nat) (w : World) (h : NsF fIMc MSl w v (marksMM k ls)) (hs : tot Mc.len ls ≤ 4000000) (hk : k ≤ 100000000) :
    Calls Try.prog 49 #[v, .int .i64 (k : Int)] w fun e w' => e = .returned (.int .i64 ((k + sm Mc.cnt ls : Nat) : Int)) ∧ w' = w := by
  obtain ⟨us, hsl, hal⟩ := h
  have HL : Hid (us.length = ls.length) := hal.1.trans (marksMM_length _ _)
  have HC : Hid (sm Mc.cnt ls ≤ 23 * tot Mc.len ls) := sm_cnt ls
  have HS : Hid (SlF fIMc w v us) := hsl
  have HA : Hid (All2 (MSl w) us (marksMM k ls)) := hal
  obtain ⟨a, cap, rfl, -, hlc, hcm, -⟩ := hsl
  unfold maxLen at hcm
  clear hal
  go_enter Try.func49, Try.ntmps49
  go_wp2_with fail
  go_loopw [1, 5] (fun z i wr => ∃ j : Nat, j ≤ us.length ∧ i = .int .i64 j ∧ z = .int .i64 ((k + sm Mc.cnt (ls.take j) : Nat) : Int) ∧ wr = w) (fun _ i _ => us.length - (intOf i).toNat)
  case atStart => exact ⟨0, Nat.zero_le _, rfl, by simp [sm], rfl⟩
  case round =>
    obtain ⟨j, hj, rfl, rfl, rfl⟩ := hrel
    have HM : Hid (sm Mc.cnt (ls.take j) ≤ sm Mc.cnt ls) := sm_le _
    by_cases hlt : j < us.length
    · have hlj : j < ls.length := by rw [← HL.out]; exact hlt
      obtain ⟨m, hm⟩ : ∃ l, ls[j]? = some l := ⟨_, List.getElem?_eq_getElem hlj⟩
      obtain ⟨u, hu⟩ : ∃ u, us[j]? = some u := ⟨_, List.getElem?_eq_getElem hlt⟩
      obtain ⟨vr, va, rfl, hr, hv⟩ := HA.out.2 j u _ hu (marksMM_get k ls hm)
      have HM2 : Hid (sm Mc.cnt (ls.take (j + 1)) = sm Mc.cnt (ls.take j) + m.cnt) := sm_take hm
      have hmlen : m.len ≤ 4000000 := by have := size_le (size := Mc.len) (List.mem_of_getElem? hm); unfold tot at hs; omega
      have hkk : k + sm Mc.cnt (ls.take j) ≤ 900000000 := by have := HM.out; have := HC.out; omega
      have HCN : Hid (m.cnt = m.rom.length + m.ram.length + 23) := show _ = _ from rfl
      have l0 : m.rom.length ≤ 4000000 := by unfold Mc.len at hmlen; omega
      have l1 : m.ram.length ≤ 4000000 := by unfold Mc.len at hmlen; omega
      obtain ⟨b, off, c, e, -, -, -⟩ := HS.out.shape (by omega)
      simp only [Value.slice.injEq] at e
      obtain ⟨rfl, -, rfl⟩ := e
      generalize hq : k + sm Mc.cnt (ls.take j) = q at *
      obtain ⟨Q, HQQ⟩ : ∃ Q, Hid (q + m.rom.length + m.ram.length = Q) := ⟨_, show _ = _ from rfl⟩
      obtain ⟨M, HMM⟩ : ∃ M : Mc, Hid (M = { m with rom := marks q m.rom.length, ram := marks (q + m.rom.length) m.ram.length }) := ⟨_, show _ = _ from rfl⟩
      have hkd : m.mkd q = Mc.mk23 Q M := by rw [HMM.out]; unfold Mc.mkd; rw [HQQ.out]
      have hr' : Sl wr vr (marks q m.rom.length) := by have : (m.mkd q).rom = marks q m.rom.length := rfl; rwa [this] at hr
      have hv' : Sl wr va (marks (q + m.rom.length) m.ram.length) := by have : (m.mkd q).ram = marks (q + m.rom.length) m.ram.length := rfl; rwa [this] at hv
      rw [hkd] at hu
      obtain ⟨a0, c0, hvr, -, -, -⟩ := id hr'
      obtain ⟨a1, c1, hva, -, -, -⟩ := id hv'
      rw [marks_length] at hvr hva
      have HR : Hid (Sl wr vr (marks q m.rom.length) ∧ Sl wr va (marks (q + m.rom.length) m.ram.length)) := ⟨hr', hv'⟩
      clear hr hv hr' hv' hkd hm hmlen
      subst hvr hva
      have hsl := HS.out
      obtain ⟨h0', h1', h2, h3, h4, h5, h6, h7, h8, h9, h10, h11, h12, h13, h14, h15, h16, h17, h18, h19, h20, h21, h22, h23, h24⟩ := mk23_at Q M m a0 a1 c0 c1
      obtain ⟨el, hel⟩ : ∃ el, (Mc.mk23 Q M).val (.slice a0 m.rom.length c0) (.slice a1 m.ram.length c1) = el := ⟨_, rfl⟩
      rw [hel] at hu h0' h1' h2 h3 h4 h5 h6 h7 h8 h9 h10 h11 h12 h13 h14 h15 h16 h17 h18 h19 h20 h21 h22 h23 h24
      have c0' : Hid ((fIMc.F el)[0]? = some (.slice a0 m.rom.length c0)) := h0'
      have c1' : Hid ((fIMc.F el)[1]? = some (.slice a1 m.ram.length c1)) := h1'
      have c2 : Hid ((fIMc.F el)[2]? = some (.int .i64 ((Q : Int)))) := h2
      have c3 : Hid ((fIMc.F el)[3]? = some (.int .i64 ((Q : Int) + 1))) := h3
      have c4 : Hid ((fIMc.F el)[4]? = some (.int .i64 ((Q : Int) + 1 + 1))) := h4
      have c5 : Hid ((fIMc.F el)[5]? = some (.int .i64 ((Q : Int) + 1 + 1 + 1))) := h5
      have c6 : Hid ((fIMc.F el)[6]? = some (.bool ((((Q : Int) + 1 + 1 + 1 + 1).tmod 3) == 0))) := h6
      have c7 : Hid ((fIMc.F el)[7]? = some (.bool ((((Q : Int) + 1 + 1 + 1 + 1 + 1).tmod 3) == 0))) := h7
      have c8 : Hid ((fIMc.F el)[8]? = some (.bool ((((Q : Int) + 1 + 1 + 1 + 1 + 1 + 1).tmod 3) == 0))) := h8
      have c9 : Hid ((fIMc.F el)[9]? = some (.bool ((((Q : Int) + 1 + 1 + 1 + 1 + 1 + 1 + 1).tmod 3) == 0))) := h9
      have c10 : Hid ((fIMc.F el)[10]? = some (.bool ((((Q : Int) + 1 + 1 + 1 + 1 + 1 + 1 + 1 + 1).tmod 3) == 0))) := h10
      have c11 : Hid ((fIMc.F el)[11]? = some (.int .i64 ((Q : Int) + 1 + 1 + 1 + 1 + 1 + 1 + 1 + 1 + 1))) := h11
      have c12 : Hid ((fIMc.F el)[12]? = some (.int .i64 ((Q : Int) + 1 + 1 + 1 + 1 + 1 + 1 + 1 + 1 + 1 + 1))) := h12
      have c13 : Hid ((fIMc.F el)[13]? = some (.int .i64 ((Q : Int) + 1 + 1 + 1 + 1 + 1 + 1 + 1 + 1 + 1 + 1 + 1))) := h13
      have c14 : Hid ((fIMc.F el)[14]? = some (.int .i64 ((Q : Int) + 1 + 1 + 1 + 1 + 1 + 1 + 1 + 1 + 1 + 1 + 1 + 1))) := h14
      have c15 : Hid ((fIMc.F el)[15]? = some (.int .i64 ((Q : Int) + 1 + 1 + 1 + 1 + 1 + 1 + 1 + 1 + 1 + 1 + 1 + 1 + 1))) := h15
      have c16 : Hid ((fIMc.F el)[16]? = some (.int .i64 ((Q : Int) + 1 + 1 + 1 + 1 + 1 + 1 + 1 + 1 + 1 + 1 + 1 + 1 + 1 + 1))) := h16
      have c17 : Hid ((fIMc.F el)[17]? = some (.int .i64 ((Q : Int) + 1 + 1 + 1 + 1 + 1 + 1 + 1 + 1 + 1 + 1 + 1 + 1 + 1 + 1 + 1))) := h17
      have c18 : Hid ((fIMc.F el)[18]? = some (.int .i64 ((Q : Int) + 1 + 1 + 1 + 1 + 1 + 1 + 1 + 1 + 1 + 1 + 1 + 1 + 1 + 1 + 1 + 1))) := h18
      have c19 : Hid ((fIMc.F el)[19]? = some (.bool ((((Q : Int) + 1 + 1 + 1 + 1 + 1 + 1 + 1 + 1 + 1 + 1 + 1 + 1 + 1 + 1 + 1 + 1 + 1).tmod 3) == 0))) := h19
      have c20 : Hid ((fIMc.F el)[20]? = some (.bool ((((Q : Int) + 1 + 1 + 1 + 1 + 1 + 1 + 1 + 1 + 1 + 1 + 1 + 1 + 1 + 1 + 1 + 1 + 1 + 1).tmod 3) == 0))) := h20
      have c21 : Hid ((fIMc.F el)[21]? = some (.int .i64 ((Q : Int) + 1 + 1 + 1 + 1 + 1 + 1 + 1 + 1 + 1 + 1 + 1 + 1 + 1 + 1 + 1 + 1 + 1 + 1 + 1))) := h21
      have c22 : Hid ((fIMc.F el)[22]? = some (.int .i64 ((Q : Int) + 1 + 1 + 1 + 1 + 1 + 1 + 1 + 1 + 1 + 1 + 1 + 1 + 1 + 1 + 1 + 1 + 1 + 1 + 1 + 1))) := h22
      have c23 : Hid ((fIMc.F el)[23]? = some (.bool ((((Q : Int) + 1 + 1 + 1 + 1 + 1 + 1 + 1 + 1 + 1 + 1 + 1 + 1 + 1 + 1 + 1 + 1 + 1 + 1 + 1 + 1 + 1).tmod 3) == 0))) := h23
      have c24 : Hid ((fIMc.F el)[24]? = some (.int .i64 ((Q : Int) + 1 + 1 + 1 + 1 + 1 + 1 + 1 + 1 + 1 + 1 + 1 + 1 + 1 + 1 + 1 + 1 + 1 + 1 + 1 + 1 + 1 + 1))) := h24
      clear hel h0' h1' h2 h3 h4 h5 h6 h7 h8 h9 h10 h11 h12 h13 h14 h15 h16 h17 h18 h19 h20 h21 h22 h23 h24
      have hQb : q + m.rom.length + m.ram.length ≤ 950000000 := by omega
      go_wp2_with (first
        | (refine ixF okIMc (r := j) rfl rfl rfl rfl hlt ?_)
        | (refine ldE okIMc (i := j) (u := .slice a0 m.rom.length c0) (j := 0) rfl rfl Try.underlying37 rfl rfl hsl hu rfl (by decide) c0'.out ?_))
      go_at_call 78
      refine (held_any _ m.rom.length _ q HR.out.1 l0 (by omega)).mono ?_
      rintro e w1 ⟨rfl, rfl⟩
      go_wp2_with (first
        | (refine ixF okIMc (r := j) rfl rfl rfl rfl hlt ?_)
        | (refine ldE okIMc (i := j) (u := .slice a1 m.ram.length c1) (j := 1) rfl rfl Try.underlying37 rfl rfl hsl hu (Nat.add_assoc _ _ _) (by decide) c1'.out ?_))
      go_at_call 78
      refine (held_any _ m.ram.length _ (q + m.rom.length) HR.out.2 l1 (by omega)).mono ?_
      rintro e w1 ⟨rfl, rfl⟩
      rw [HQQ.out] at hQb ⊢
      go_wp2_with (first
          | (refine ixF okIMc (r := j) rfl rfl rfl rfl hlt ?_)
          | (refine ldE okIMc (i := j) (j := 2) (u := .int .i64 ((Q : Int))) rfl rfl Try.underlying2 rfl rfl hsl hu (Nat.add_assoc _ _ _) (by decide) c2.out ?_)
          | (refine ldE okIMc (i := j) (j := 3) (u := .int .i64 ((Q : Int) + 1)) rfl rfl Try.underlying2 rfl rfl hsl hu (Nat.add_assoc _ _ _) (by decide) c3.out ?_)
          | (refine ldE okIMc (i := j) (j := 4) (u := .int .i64 ((Q : Int) + 1 + 1)) rfl rfl Try.underlying2 rfl rfl hsl hu (Nat.add_assoc _ _ _) (by decide) c4.out ?_)
          | (refine ldE okIMc (i := j) (j := 5) (u := .int .i64 ((Q : Int) + 1 + 1 + 1)) rfl rfl Try.underlying2 rfl rfl hsl hu (Nat.add_assoc _ _ _) (by decide) c5.out ?_)
          | (refine ldE okIMc (i := j) (j := 6) (u := .bool ((((Q : Int) + 1 + 1 + 1 + 1).tmod 3) == 0)) rfl rfl Try.underlying4 rfl rfl hsl hu (Nat.add_assoc _ _ _) (by decide) c6.out ?_)
          | (refine ldE okIMc (i := j) (j := 7) (u := .bool ((((Q : Int) + 1 + 1 + 1 + 1 + 1).tmod 3) == 0)) rfl rfl Try.underlying4 rfl rfl hsl hu (Nat.add_assoc _ _ _) (by decide) c7.out ?_)
          | (refine ldE okIMc (i := j) (j := 8) (u := .bool ((((Q : Int) + 1 + 1 + 1 + 1 + 1 + 1).tmod 3) == 0)) rfl rfl Try.underlying4 rfl rfl hsl hu (Nat.add_assoc _ _ _) (by decide) c8.out ?_)
          | (refine ldE okIMc (i := j) (j := 9) (u := .bool ((((Q : Int) + 1 + 1 + 1 + 1 + 1 + 1 + 1).tmod 3) == 0)) rfl rfl Try.underlying4 rfl rfl hsl hu (Nat.add_assoc _ _ _) (by decide) c9.out ?_)
          | (refine ldE okIMc (i := j) (j := 10) (u := .bool ((((Q : Int) + 1 + 1 + 1 + 1 + 1 + 1 + 1 + 1).tmod 3) == 0)) rfl rfl Try.underlying4 rfl rfl hsl hu (Nat.add_assoc _ _ _) (by decide) c10.out ?_)
          | (refine ldE okIMc (i := j) (j := 11) (u := .int .i64 ((Q : Int) + 1 + 1 + 1 + 1 + 1 + 1 + 1 + 1 + 1)) rfl rfl Try.underlying2 rfl rfl hsl hu (Nat.add_assoc _ _ _) (by decide) c11.out ?_)
          | (refine ldE okIMc (i := j) (j := 12) (u := .int .i64 ((Q : Int) + 1 + 1 + 1 + 1 + 1 + 1 + 1 + 1 + 1 + 1)) rfl rfl Try.underlying2 rfl rfl hsl hu (Nat.add_assoc _ _ _) (by decide) c12.out ?_)
          | (refine ldE okIMc (i := j) (j := 13) (u := .int .i64 ((Q : Int) + 1 + 1 + 1 + 1 + 1 + 1 + 1 + 1 + 1 + 1 + 1)) rfl rfl Try.underlying2 rfl rfl hsl hu (Nat.add_assoc _ _ _) (by decide) c13.out ?_)
          | (refine ldE okIMc (i := j) (j := 14) (u := .int .i64 ((Q : Int) + 1 + 1 + 1 + 1 + 1 + 1 + 1 + 1 + 1 + 1 + 1 + 1)) rfl rfl Try.underlying2 rfl rfl hsl hu (Nat.add_assoc _ _ _) (by decide) c14.out ?_)
          | (refine ldE okIMc (i := j) (j := 15) (u := .int .i64 ((Q : Int) + 1 + 1 + 1 + 1 + 1 + 1 + 1 + 1 + 1 + 1 + 1 + 1 + 1)) rfl rfl Try.underlying2 rfl rfl hsl hu (Nat.add_assoc _ _ _) (by decide) c15.out ?_)
          | (refine ldE okIMc (i := j) (j := 16) (u := .int .i64 ((Q : Int) + 1 + 1 + 1 + 1 + 1 + 1 + 1 + 1 + 1 + 1 + 1 + 1 + 1 + 1)) rfl rfl Try.underlying2 rfl rfl hsl hu (Nat.add_assoc _ _ _) (by decide) c16.out ?_)
          | (refine ldE okIMc (i := j) (j := 17) (u := .int .i64 ((Q : Int) + 1 + 1 + 1 + 1 + 1 + 1 + 1 + 1 + 1 + 1 + 1 + 1 + 1 + 1 + 1)) rfl rfl Try.underlying2 rfl rfl hsl hu (Nat.add_assoc _ _ _) (by decide) c17.out ?_)
          | (refine ldE okIMc (i := j) (j := 18) (u := .int .i64 ((Q : Int) + 1 + 1 + 1 + 1 + 1 + 1 + 1 + 1 + 1 + 1 + 1 + 1 + 1 + 1 + 1 + 1)) rfl rfl Try.underlying2 rfl rfl hsl hu (Nat.add_assoc _ _ _) (by decide) c18.out ?_)
          | (refine ldE okIMc (i := j) (j := 19) (u := .bool ((((Q : Int) + 1 + 1 + 1 + 1 + 1 + 1 + 1 + 1 + 1 + 1 + 1 + 1 + 1 + 1 + 1 + 1 + 1).tmod 3) == 0)) rfl rfl Try.underlying4 rfl rfl hsl hu (Nat.add_assoc _ _ _) (by decide) c19.out ?_)
          | (refine ldE okIMc (i := j) (j := 20) (u := .bool ((((Q : Int) + 1 + 1 + 1 + 1 + 1 + 1 + 1 + 1 + 1 + 1 + 1 + 1 + 1 + 1 + 1 + 1 + 1 + 1).tmod 3) == 0)) rfl rfl Try.underlying4 rfl rfl hsl hu (Nat.add_assoc _ _ _) (by decide) c20.out ?_)
          | (refine ldE okIMc (i := j) (j := 21) (u := .int .i64 ((Q : Int) + 1 + 1 + 1 + 1 + 1 + 1 + 1 + 1 + 1 + 1 + 1 + 1 + 1 + 1 + 1 + 1 + 1 + 1 + 1)) rfl rfl Try.underlying2 rfl rfl hsl hu (Nat.add_assoc _ _ _) (by decide) c21.out ?_)
          | (refine ldE okIMc (i := j) (j := 22) (u := .int .i64 ((Q : Int) + 1 + 1 + 1 + 1 + 1 + 1 + 1 + 1 + 1 + 1 + 1 + 1 + 1 + 1 + 1 + 1 + 1 + 1 + 1 + 1)) rfl rfl Try.underlying2 rfl rfl hsl hu (Nat.add_assoc _ _ _) (by decide) c22.out ?_)
          | (refine ldE okIMc (i := j) (j := 23) (u := .bool ((((Q : Int) + 1 + 1 + 1 + 1 + 1 + 1 + 1 + 1 + 1 + 1 + 1 + 1 + 1 + 1 + 1 + 1 + 1 + 1 + 1 + 1 + 1).tmod 3) == 0)) rfl rfl Try.underlying4 rfl rfl hsl hu (Nat.add_assoc _ _ _) (by decide) c23.out ?_)
          | (refine ldE okIMc (i := j) (j := 24) (u := .int .i64 ((Q : Int) + 1 + 1 + 1 + 1 + 1 + 1 + 1 + 1 + 1 + 1 + 1 + 1 + 1 + 1 + 1 + 1 + 1 + 1 + 1 + 1 + 1 + 1)) rfl rfl Try.underlying2 rfl rfl hsl hu (Nat.add_assoc _ _ _) (by decide) c24.out ?_))
      refine ⟨?_, ?measure⟩
      iterate 90 (try apply Exists.intro)
      iterate 90 (try apply Exists.intro)
      iterate 90 (try apply Exists.intro)
      refine ⟨?rel, rfl⟩
      case rel => exact ⟨j + 1, by omega, by go_num, by congr 1; have := HM2.out; have := HQQ.out; have := HCN.out; omega, rfl⟩
      case measure => simp [intOf]; omega
    · have e : j = us.length := by omega
      subst e
      have HE : Hid (ls.take us.length = ls) := show _ = _ by rw [HL.out, List.take_length]
      go_wp2
      go_ret
      exact ⟨by rw [HE.out]; rfl, rfl⟩
end Go.Proofs.Ytjjafaikaghlgaa.Mem
