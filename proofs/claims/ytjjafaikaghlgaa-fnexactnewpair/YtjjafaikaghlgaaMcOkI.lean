/-
  Whether a machine is right, as the program tells it.
-/
import Derived.Test.YtjjafaikaghlgaaMc
namespace Go.Proofs.Ytjjafaikaghlgaa.Mem
open Go.ChangeShapes Go.WideShapes Go.RowKit Base Num Slc Rw Tmr Srl Rom RomOf
set_option linter.unusedVariables false
set_option maxRecDepth 20000

set_option maxHeartbeats 2000000 in
theorem machineOk_impl (v : Value) (m : Mc) (w : World) (hm : MSl w v m) :
    Calls Try.prog 29 #[v] w fun e w' => e = .returned (.bool m.ok) ∧ Below w.heap.size w w' := by
  obtain ⟨vr, va, rfl, hr, ⟨aa, ca, rfl, hia, hla, hca, hna⟩⟩ := hm
  have hml : m.ram.length ≤ maxLen := Nat.le_trans hla hca
  clear hla hca hna
  obtain ⟨cs, hv, hcs, hk⟩ := Mc.open vr (.slice aa m.ram.length ca) m
  rw [hv]
  clear hv hcs
  go_enter Try.func29, Try.ntmps29
  go_wp2_with (refine box_mc rfl rfl rfl hk ?_; intro w0 r0 hB0; obtain ⟨k0, k1, k2, k3, k4, k5, -, -, -, -, -, k11, k12, k13, k14, k15, k16, k17, k18, k19, k20, k21, k22, k23, k24⟩ := hk.at  r0)
  go_at_call 58
  refine (romOk_implS _ m.rom _ (hr.below hB0)).mono ?_
  rintro e w1 ⟨rfl, n1, hw1⟩
  have hb1 := drew_below hw1
  have r1 := r0.below hb1
  have hB : Below w.heap.size w w1 := hB0.trans (hb1.mono hB0.size)
  have hia1 := hia.below hB
  clear hw1 hb1 hia hr r0 k0 k1 k2 k3 k4 k5 k11 k12 k13 k14 k15 k16 k17 k18 k19 k20 k21 k22 k23 k24
  obtain ⟨k0, k1, k2, k3, k4, k5, -, -, -, -, -, k11, k12, k13, k14, k15, k16, k17, k18, k19, k20, k21, k22, k23, k24⟩ := hk.at  r1
  generalize h1 : romOk m.rom = q1
  cases q1
  · go_wp2_with fail
    go_ret
    exact ⟨ret_bool (by simp [Mc.ok, h1]), hB⟩
  by_cases h2 : m.ram.length = 64
  · have h2' : ((m.ram.length : Int) == 64) = true := by simp [h2]
    have H2 : Hid (m.ram.length = 64) := h2
    clear h2
    go_wp2_with (first
      | (go_at_call 59; refine (bytes_impl _ _ _ m.ram _ hia1 hml).mono ?_; rintro e w2 ⟨rfl, rfl⟩; generalize h3 : m.ram.all bok = r; cases r)
      | (go_at_call 60; refine (byteOk_impl _ _).mono ?_; rintro e w2 ⟨rfl, rfl⟩; generalize hb : bok _ = r; cases r)
      | (go_at_call 61; refine (flagsOk_impl _ _).mono ?_; rintro e w2 ⟨rfl, rfl⟩; generalize hi : inn _ _ _ = r; cases r)
      | (go_at_call 62; refine (timerOk_impl m.t _).mono ?_; rintro e w2 ⟨rfl, hb2⟩; replace r1 := r1.below hb2; replace hB := hB.trans (hb2.mono hB.size); clear hb2 k0 k1 k2 k3 k4 k5 k11 k12 k13 k14 k15 k16 k17 k18 k19 k20 k21 k22 k23 k24; obtain ⟨k0, k1, k2, k3, k4, k5, -, -, -, -, -, k11, k12, k13, k14, k15, k16, k17, k18, k19, k20, k21, k22, k23, k24⟩ := hk.at  r1; generalize h11 : m.t.ok = r; cases r)
      | (go_at_call 63; refine (serialOk_impl m.p _).mono ?_; rintro e w2 ⟨rfl, hb2⟩; replace r1 := r1.below hb2; replace hB := hB.trans (hb2.mono hB.size); clear hb2 k0 k1 k2 k3 k4 k5 k11 k12 k13 k14 k15 k16 k17 k18 k19 k20 k21 k22 k23 k24; obtain ⟨k0, k1, k2, k3, k4, k5, -, -, -, -, -, k11, k12, k13, k14, k15, k16, k17, k18, k19, k20, k21, k22, k23, k24⟩ := hk.at  r1; generalize h12 : m.p.ok = r; cases r))
    all_goals go_ret
    all_goals exact ⟨ret_bool (by simp [Mc.ok, H2.out, *]), hB⟩
  · have h2' : ((m.ram.length : Int) == 64) = false := by simp; omega
    go_wp2_with fail
    go_ret
    exact ⟨ret_bool (by simp [Mc.ok, h2]), hB⟩
end Go.Proofs.Ytjjafaikaghlgaa.Mem
