/-
  What is read at a place, as the document's model tells it.
-/
import Derived.Test.YtocofjimkfffeaaGreatDoorMcW
import Derived.Test.YtocofjimkfffeaaGreatDoorMcOk
import Derived.Deep.QuietTactic
import Derived.BigQuiet
namespace Go.Proofs.YtocofjimkfffeaaGreatDoor.Mem
open Go.ChangeShapes Go.WideShapes Go.RowKit Base Num Slc Rw Tmr Srl Rom RomOf
set_option linter.unusedVariables false
set_option linter.unusedSimpArgs false

theorem flag_any (b : Bool) (w : World) :
    Calls Tryz.prog 114 #[.bool b] w fun e w' => e = .returned (.int .i64 (flag b)) ∧ w' = w := by
  cases b
  all_goals
    go_enter Tryz.func114, Tryz.ntmps114
    go_wp2
    go_ret
    exact ⟨rfl, rfl⟩
theorem flag_in (b : Bool) : 0 ≤ flag b ∧ flag b ≤ 1 := by cases b <;> simp [flag]
theorem bytes_at {l : List Int} (h : l.all bok = true) (k : Nat) (hk : k < l.length) : 0 ≤ l.getD k 0 ∧ l.getD k 0 ≤ 255 := bok_true (all_getD h hk)
/-- What is told of a right machine. -/
structure Right (m : Mc) : Prop where
  rom : 2 ≤ m.rom.length ∧ m.rom.length ≤ 128
  ram : m.ram.length = 64
  tim : 0 ≤ m.t.c ∧ m.t.c ≤ 1000000000
theorem Mc.right {m : Mc} (h : m.ok = true) : Right m := by
  obtain ⟨h1, h2, h3, h4, h5⟩ := Mc.ok_rom h
  exact ⟨romOk_len h1, h2, (Tm.ok_true h3).1⟩
set_option maxHeartbeats 2000000 in
theorem l6Read_spec (v : Value) (m : Mc) (q : Int) (w : World) (hm : MSl w v m) (hR : Right m) (hq : 0 ≤ q ∧ q ≤ 255) :
    Calls Tryz.prog 44 #[v, .int .i64 q] w fun e w' => e = .returned (.int .i64 (m.read q)) ∧ Below w.heap.size w w' := by
  obtain ⟨vr, va, rfl, ⟨ar, cr, rfl, hir, hlr, hcr, hnr⟩, ⟨aa, ca, rfl, hia, hla, hca, hna⟩⟩ := hm
  have hR1 := hR.rom
  have hR2 := hR.ram
  have hR3 := hR.tim
  unfold maxLen at hcr hca
  obtain ⟨vv, hvv⟩ : ∃ vv, m.val (.slice ar m.rom.length cr) (.slice aa m.ram.length ca) = vv := ⟨_, rfl⟩
  rw [hvv]
  clear hnr hna
  by_cases h128 : q < 128
  · by_cases hl : q < (m.rom.length : Int)
    · obtain ⟨k, rfl⟩ : ∃ k : Nat, q = (k : Int) := ⟨q.toNat, by omega⟩
      have e : m.read (k : Int) = m.rom.getD k 0 := by simp [Mc.read, h128, hl]
      rw [e]
      have hkl : k < m.rom.length := by omega
      rcases hir.2 with h0 | ⟨b, off, rfl, hbl, hcell⟩
      · omega
      have hz := hcell k hkl
      generalize m.rom.getD k 0 = z at hz ⊢
      clear hcell hir hR2 e
      go_enter Tryz.func44, Tryz.ntmps44
      go_wp2_with (refine box_m rfl rfl hvv.symm ?_; intro w0 r0 hB0; have k0 := (cw r0).vr; have hz0 : w0.cell? ⟨b, off + k, none⟩ = some (.int .i64 z) := (hB0.cell (p := ⟨b, off + k, none⟩) hbl).trans hz)
      go_ret
      exact ⟨rfl, hB0⟩
    · have e : m.read q = 255 := by simp [Mc.read, h128, hl]
      rw [e]
      clear hR2
      go_enter Tryz.func44, Tryz.ntmps44
      go_wp2_with (refine box_m rfl rfl hvv.symm ?_; intro w0 r0 hB0; have k0 := (cw r0).vr)
      go_ret
      exact ⟨rfl, hB0⟩
  by_cases h192 : q < 192
  · obtain ⟨k, rfl⟩ : ∃ k : Nat, q = 128 + (k : Int) := ⟨(q - 128).toNat, by omega⟩
    have e : m.read (128 + (k : Int)) = m.ram.getD k 0 := by
      have h1 : ¬ (128 + (k : Int)) < 128 := h128
      have h2 : (128 + (k : Int) - 128).toNat = k := by omega
      simp only [Mc.read, h1, h192, if_true, if_false, h2]
    rw [e]
    have hkl : k < m.ram.length := by omega
    rcases hia.2 with h0 | ⟨b, off, rfl, hbl, hcell⟩
    · omega
    have hz := hcell k hkl
    have hs : 128 + (k : Int) - 128 = (k : Int) := by omega
    generalize m.ram.getD k 0 = z at hz ⊢
    clear hcell hir e hR2 hia
    go_enter Tryz.func44, Tryz.ntmps44
    go_wp2_with (refine box_m rfl rfl hvv.symm ?_; intro w0 r0 hB0; have k0 := (cw r0).va; have hz0 : w0.cell? ⟨b, off + k, none⟩ = some (.int .i64 z) := (hB0.cell (p := ⟨b, off + k, none⟩) hbl).trans hz)
    go_ret
    exact ⟨rfl, hB0⟩
  clear hR2
  by_cases h0 : q = 240
  · subst h0
    go_enter Tryz.func44, Tryz.ntmps44
    go_wp2_with (refine box_m rfl rfl hvv.symm ?_; intro w0 r0 hB0; have k0 := (cw r0).pd)
    go_ret
    exact ⟨rfl, hB0⟩
  by_cases h1 : q = 241
  · subst h1
    have hf1 := flag_in m.p.b
    have hf2 := flag_in m.p.l
    go_enter Tryz.func44, Tryz.ntmps44
    go_wp2_with (refine box_m rfl rfl hvv.symm ?_; intro w0 r0 hB0; have k0 := (cw r0).pb; have k1 := (cw r0).pl)
    go_quiet ((go_at_call 114; refine Calls.quiet_of_same (flag_any _ _)))
    go_wp2
    go_ret
    exact ⟨rfl, below_drewN hB0 _⟩
  by_cases h2 : q = 242
  · subst h2
    have q1 := quo_pos' (a := m.t.c) (r := 16) hR3.1
    have q2 := rem_pos' (a := m.t.c / 16) (r := 256) (by omega)
    go_enter Tryz.func44, Tryz.ntmps44
    go_wp2_with (refine box_m rfl rfl hvv.symm ?_; intro w0 r0 hB0; have k0 := (cw r0).tc)
    go_ret
    exact ⟨rfl, hB0⟩
  by_cases h3 : q = 243
  · subst h3
    go_enter Tryz.func44, Tryz.ntmps44
    go_wp2_with (refine box_m rfl rfl hvv.symm ?_; intro w0 r0 hB0; have k0 := (cw r0).tv)
    go_ret
    exact ⟨rfl, hB0⟩
  by_cases h4 : q = 244
  · subst h4
    go_enter Tryz.func44, Tryz.ntmps44
    go_wp2_with (refine box_m rfl rfl hvv.symm ?_; intro w0 r0 hB0; have k0 := (cw r0).ts)
    go_ret
    exact ⟨rfl, hB0⟩
  by_cases h5 : q = 245
  · subst h5
    go_enter Tryz.func44, Tryz.ntmps44
    go_wp2_with (refine box_m rfl rfl hvv.symm ?_; intro w0 r0 hB0; have k0 := (cw r0).tm)
    go_ret
    exact ⟨rfl, hB0⟩
  by_cases h6 : q = 246
  · subst h6
    go_enter Tryz.func44, Tryz.ntmps44
    go_wp2_with (refine box_m rfl rfl hvv.symm ?_; intro w0 r0 hB0; have k0 := (cw r0).fl)
    go_ret
    exact ⟨rfl, hB0⟩
  by_cases h7 : q = 247
  · subst h7
    go_enter Tryz.func44, Tryz.ntmps44
    go_wp2_with (refine box_m rfl rfl hvv.symm ?_; intro w0 r0 hB0; have k0 := (cw r0).ms)
    go_ret
    exact ⟨rfl, hB0⟩
  by_cases h8 : q = 248
  · subst h8
    go_enter Tryz.func44, Tryz.ntmps44
    go_wp2_with (refine box_m rfl rfl hvv.symm ?_; intro w0 r0 hB0; have k0 := (cw r0).ky)
    go_ret
    exact ⟨rfl, hB0⟩
  have e : m.read q = 255 := by simp [Mc.read, h128, h192, h0, h1, h2, h3, h4, h5, h6, h7, h8]
  rw [e]
  go_enter Tryz.func44, Tryz.ntmps44
  go_wp2_with (refine box_m rfl rfl hvv.symm ?_; intro w0 r0 hB0)
  go_ret
  exact ⟨rfl, hB0⟩
theorem readAt_spec (v : Value) (m : Mc) (q : Int) (w : World) (hm : MSl w v m) :
    Calls Tryz.prog 11 #[v, .int .i64 q] w fun e w' => e = .returned (.int .i64 (m.readAt q)) ∧ Below w.heap.size w w' := by
  have hm0 := hm
  obtain ⟨vr, va, hv, hr, ha⟩ := hm0
  cases hok : m.ok
  · have e : m.readAt q = -1 := by simp [Mc.readAt, hok]
    rw [e]
    go_enter Tryz.func11, Tryz.ntmps11
    go_wp2_with (first
      | (refine box_m rfl rfl hv ?_; intro w0 r0 hB0)
      | (refine ld_mc rfl rfl rfl r0 ?_)
      | (go_at_call 10; refine (machineOk_spec _ m _ ⟨vr, va, rfl, hr.below hB0, ha.below hB0⟩).mono ?_; rintro e w1 ⟨rfl, hb1⟩; rw [hok]; have hB1 := hB0.trans (hb1.mono hB0.size)))
    go_ret
    exact ⟨rfl, hB1⟩
  cases hb : bok q
  · have e : m.readAt q = -1 := by simp [Mc.readAt, hb]
    rw [e]
    go_enter Tryz.func11, Tryz.ntmps11
    go_wp2_with (first
      | (refine box_m rfl rfl hv ?_; intro w0 r0 hB0)
      | (refine ld_mc rfl rfl rfl r0 ?_)
      | (go_at_call 10; refine (machineOk_spec _ m _ ⟨vr, va, rfl, hr.below hB0, ha.below hB0⟩).mono ?_; rintro e w1 ⟨rfl, hb1⟩; rw [hok]; have hB1 := hB0.trans (hb1.mono hB0.size))
      | (go_at_call 40; refine (byteOk_spec _ _).mono ?_; rintro e w2 ⟨rfl, rfl⟩; rw [hb]))
    go_ret
    exact ⟨rfl, hB1⟩
  have e : m.readAt q = m.read q := by simp [Mc.readAt, hok, hb]
  rw [e]
  have hq := bok_true hb
  go_enter Tryz.func11, Tryz.ntmps11
  go_wp2_with (first
    | (refine box_m rfl rfl hv ?_; intro w0 r0 hB0)
    | (refine ld_mc rfl rfl rfl r0 ?_)
    | (go_at_call 10; refine (machineOk_spec _ m _ ⟨vr, va, rfl, hr.below hB0, ha.below hB0⟩).mono ?_; rintro e w1 ⟨rfl, hb1⟩; rw [hok]; have hB1 := hB0.trans (hb1.mono hB0.size); replace r0 := r0.below hb1)
    | (go_at_call 40; refine (byteOk_spec _ _).mono ?_; rintro e w2 ⟨rfl, rfl⟩; rw [hb])
    | (go_at_call 44; refine (l6Read_spec _ m _ _ ⟨vr, va, rfl, hr.below hB1, ha.below hB1⟩ (Mc.right hok) hq).mono ?_; rintro e w3 ⟨rfl, hb3⟩; have hB3 := hB1.trans (hb3.mono hB1.size)))
  go_ret
  exact ⟨rfl, hB3⟩
end Go.Proofs.YtocofjimkfffeaaGreatDoor.Mem
