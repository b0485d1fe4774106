/-
  A machine's copy, as the document's model makes it. What is written at a place, as the document's model tells it.
-/
import Derived.Test.YtocofjimkfffeaaGreatDoorMcW
import Derived.Test.YtocofjimkfffeaaGreatDoorMcRead
import Derived.Test.YtocofjimkfffeaaGreatDoorMcNew
namespace Go.Proofs.YtocofjimkfffeaaGreatDoor.Mem
open Go.ChangeShapes Go.WideShapes Go.RowKit Base Num Slc Rw Tmr Srl Rom RomOf
set_option linter.unusedVariables false

set_option maxHeartbeats 1000000 in
theorem l6Copy_spec (v : Value) (m : Mc) (w : World) (hm : MSl w v m) (h1 : m.rom.length ≤ 4000000) (h2 : m.ram.length ≤ 4000000) :
    Calls Tryz.prog 36 #[v] w fun e w' => ∃ v', e = .returned v' ∧ MOwn w.heap.size w' v' m ∧ Below w.heap.size w w' := by
  obtain ⟨vr, va, rfl, hr, ha⟩ := hm
  obtain ⟨vv, hvv⟩ : ∃ vv, m.val vr va = vv := ⟨_, rfl⟩
  rw [hvv]
  go_enter Tryz.func36, Tryz.ntmps36
  go_wp2_with (first
    | (refine box_m rfl rfl hvv.symm ?_; intro w0 r0 hB0; have k0 := (cw r0).vr; have l0 := r0.lt)
    | (refine al_mc rfl rfl ?_; intro w1 z1 hB1; have r1 := r0.below hB1; have k1 := (cw r1).vr; have l1 := r1.lt; have hB2 := hB0.trans (hB1.mono hB0.size)))
  go_at_call 57
  refine (copy_spec vr m.rom _ (hr.below hB2) (by omega)).mono ?_
  rintro e w2 ⟨v1, rfl, ho1, hb1⟩
  have hB3 := hB2.trans (hb1.mono hB2.size)
  have r2 := r1.below hb1
  have z2 := z1.below hb1
  have hzl := z2.lt
  have hwl := r2.lt
  have hgz : w.heap.size < w0.heap.size := l0
  have s01 := hB1.size
  have hz1 := z1.lt
  clear k0 k1 l0 l1 r0 r1 z1
  go_wp2_with (first
    | (refine st_rom rfl rfl rfl rfl r2 (one_own ho1) m.rom ?_; intro w3 r3 o3 s3; have k3 := (cw r3).va))
  go_at_call 57
  have hB4 := below_onto hB3 o3 (Nat.le_refl _)
  refine (copy_spec va m.ram _ (ha.below hB4) (by omega)).mono ?_
  rintro e w4 ⟨v2, rfl, ho2, hb2⟩
  have hB5 := hB4.trans (hb2.mono hB4.size)
  have r4 := r3.below hb2
  have z4 := (z2.onto o3 (by omega)).below hb2
  have ho1' := (ho1.onto o3 (fun e => by have := (ho1.lt _ e).1; have := hB2.size; omega)).below hb2
  have ho2b := ho2.lt
  have ho1b := ho1.lt
  have hs3 := s3
  clear k3 r2 r3 z2
  go_wp2_with (first
    | (refine st_ram rfl rfl rfl rfl r4 (one_own ho2) m.ram ?_; intro w5 r5 o5 s5)
    | (refine ld_mc rfl rfl rfl r5 ?_)
    | (refine st_mc rfl rfl rfl rfl (z4.onto o5 (by omega)) (one_own ho1) (one_own ho2) ?_; intro w6 r6 o6 s6))
  refine ret_mc rfl rfl r6 rfl ?_
  have hB6 := below_onto (below_onto hB5 o5 (Nat.le_refl _)) o6 (by omega)
  refine ⟨_, rfl, ⟨v1, v2, rfl, ?_, ?_, ?_⟩, hB6⟩
  · exact ((ho1'.onto o5 (fun e => by have := (ho1b _ e).1; have := hB2.size; omega)).onto o6 (fun e => by have := (ho1b _ e).1; omega)).mono (by have := hB2.size; omega)
  · exact ((ho2.onto o5 (fun e => by have := (ho2b _ e).1; omega)).onto o6 (fun e => by have := (ho2b _ e).1; omega)).mono (by have := hB4.size; omega)
  · intro k hk hk'
    have := (ho1b k hk).2
    have := (ho2b k hk').1
    omega
end Go.Proofs.YtocofjimkfffeaaGreatDoor.Mem
namespace Go.Proofs.YtocofjimkfffeaaGreatDoor.Mem
open Go.ChangeShapes Go.WideShapes Go.RowKit Base Num Slc Rw Tmr Srl Rom RomOf
set_option linter.unusedVariables false
set_option linter.unusedSimpArgs false

/-- A machine's lists, a block of its own turned elsewhere. -/
theorem MOwn.onto {base g : Nat} {w w' : World} {vr va : Value} {m : Mc} (h1 : Own base w vr m.rom) (h2 : Own base w va m.ram) (ho : Onto g w w') (hg : w.heap.size ≤ g ∨ g < base) : Own base w' vr m.rom ∧ Own base w' va m.ram :=
  ⟨h1.onto ho (fun e => by have := h1.lt _ e; omega), h2.onto ho (fun e => by have := h2.lt _ e; omega)⟩
theorem on_below {g : Nat} {w w' : World} (h : Below w.heap.size w w') : Onto g w w' := ⟨h.os, h.tape, h.output, h.size, fun k _ hk => h.block k hk⟩
theorem onto_new {g p : Nat} {a w w' : World} (h : Onto g a w) (ho : Onto p w w') (hp : a.heap.size ≤ p) : Onto g a w' :=
  ⟨ho.os.trans h.os, ho.tape.trans h.tape, ho.output.trans h.output, Nat.le_trans h.size ho.size, fun k hk hl => by rw [ho.block k (by omega) (Nat.lt_of_lt_of_le hl h.size)]; exact h.block k hk hl⟩
/-- Of what was there the block of the list y alone may have turned. -/
def But (y : Value) (w w' : World) : Prop := ∀ g, y.ownBlock = some g → Onto g w w'
set_option maxHeartbeats 2000000 in
theorem l6Write_on (v vr va : Value) (m : Mc) (q n : Int) (w : World) (base : Nat) (hv : v = m.val vr va) (hr : Own base w vr m.rom) (ha : Own base w va m.ram) (hap : ∀ k, vr.ownBlock = some k → va.ownBlock ≠ some k) (hR : Right m) (hq : 0 ≤ q ∧ q ≤ 255) (hn : 0 ≤ n ∧ n ≤ 255) (hbase : base ≤ w.heap.size) :
    Calls Tryz.prog 148 #[v, .int .i64 q, .int .i64 n] w fun e w' => ∃ v', e = .returned v' ∧ (v' = (m.write q n).val vr va ∧ Own base w' vr (m.write q n).rom ∧ Own base w' va (m.write q n).ram) ∧ But va w w' := by
  have hR1 := hR.rom
  have hR2 := hR.ram
  have o1 := one_own hr
  have o2 := one_own ha
  have hrl := hr.lt
  have hal := ha.lt
  by_cases hin : 128 ≤ q ∧ q < 192
  · have e : m.write q n = { m with ram := m.ram.set (q - 128).toNat n } := by simp [Mc.write, hin]
    rw [e]
    obtain ⟨k, rfl⟩ : ∃ k : Nat, q = 128 + (k : Int) := ⟨(q - 128).toNat, by omega⟩
    have h2 : (128 + (k : Int) - 128).toNat = k := by omega
    rw [h2]
    have hs : 128 + (k : Int) - 128 = (k : Int) := by omega
    obtain ⟨g, cap, rfl, hg1, hg2, hg3, hg4⟩ := ha.block (by omega)
    unfold maxLen at hg4
    have hkl : k < m.ram.length := by omega
    have hkl' : (k : Int) < (m.ram.length : Int) := by omega
    have hr2 : Hid (m.ram.length = 64) := hR2
    clear hR2 e h2
    go_enter Tryz.func148, Tryz.ntmps148
    go_wp2_with (first
      | (refine box_m rfl rfl hv ?_; intro w0 r0 hB0)
      | (refine al_mc rfl rfl ?_; intro w1 z1 hB1; have r1 := r0.below hB1; have k1 := (cw r1).va; have hB2 := hB0.trans (hB1.mono hB0.size); have ha1 := ha.below hB2; have hr1 := hr.below hB2; have hc1 := ha1.cellAt (j := k) hkl; have hf1 := ha1.free k; have l0 := r0.lt; have l1 := r1.lt; have lz := z1.lt)
      | (refine ld_mc rfl rfl rfl (r1.setOther ⟨g, k, none⟩ (.int .i64 n) (show w.heap.size ≠ g by omega)) ?_)
      | (refine st_mc rfl rfl rfl rfl (z1.setOther ⟨g, k, none⟩ (.int .i64 n) (show w0.heap.size ≠ g by omega)) o1 rfl ?_; intro w6 r6 o6 s6))
    refine ret_mc rfl rfl r6 rfl ?_
    have hst := ha1.store k n
    have hr2 := hr1.grown hst.2 (fun j hj e => by cases hj; exact hap g e rfl)
    refine ⟨_, rfl, ⟨rfl, ?_, ?_⟩, ?_⟩
    · exact hr2.onto o6 (fun e => by have := hrl _ e; omega)
    · exact hst.1.onto o6 (fun e => by simp [Value.ownBlock] at e; omega)
    · intro g' hg'
      obtain rfl : g = g' := by simpa [Value.ownBlock] using hg'
      exact onto_new ((on_below (g := g) hB2).setCell (q := ⟨g, k, none⟩) rfl _) o6 (by omega)
  · have hni : ¬ (128 ≤ q ∧ q < 192) := hin
    have h8 := rem_pos' (a := n) (r := 8) hn.1
    have h2 := rem_pos' (a := n) (r := 2) hn.1
    by_cases c240 : q = 240
    · subst c240
      have e : m.write 240 n = { m with p := { m.p with d := n } } := by simp [Mc.write]
      rw [e]
      clear e
      go_enter Tryz.func148, Tryz.ntmps148
      go_wp2_with (first
        | (refine box_m rfl rfl hv ?_; intro w0 r0 hB0)
        | (refine al_mc rfl rfl ?_; intro w1 z1 hB1; have r1 := r0.below hB1; have hB2 := hB0.trans (hB1.mono hB0.size); have l0 := r0.lt; have l1 := r1.lt; have lz := z1.lt)
        | (refine st_num (m' := { m with p := { m.p with d := n } }) rfl rfl rfl rfl r1 rfl rfl ?_; intro w3 r3 o3 s3)
        | (refine ld_mc rfl rfl rfl r3 ?_)
        | (refine st_mc rfl rfl rfl rfl ((z1).onto o3 (by omega)) o1 o2 ?_; intro w6 r6 o6 s6))
      refine ret_mc rfl rfl r6 rfl ?_
      have hB3 := hB2
      have hB6 := below_onto (below_onto hB3 o3 (Nat.le_refl _)) o6 (by omega)
      exact ⟨_, rfl, ⟨rfl, hr.below hB6, ha.below hB6⟩, fun _ _ => on_below hB6⟩
    by_cases c241 : q = 241
    · subst c241
      by_cases hbig : 127 < n
      · have hlead : (n % 2 == 1) = decide (n % 2 = 1) := rfl
        have e : m.write 241 n = { m with p := m.p.start (n % 2 == 1) m.k } := by simp [Mc.write, hbig]
        rw [e]
        clear e
        go_enter Tryz.func148, Tryz.ntmps148
        go_wp2_with (first
        | (refine box_m rfl rfl hv ?_; intro w0 r0 hB0)
        | (refine al_mc rfl rfl ?_; intro w1 z1 hB1; have r1 := r0.below hB1; have hB2 := hB0.trans (hB1.mono hB0.size); have l0 := r0.lt; have l1 := r1.lt; have lz := z1.lt; have kk := (cw r1).k)
        | (refine ld_ser rfl rfl rfl r1 ?_)
        | (go_at_call 145; refine (serialStart_spec m.p _ _ _).mono ?_; rintro e w5 ⟨rfl, hb5⟩)
        | (refine st_port' rfl rfl rfl rfl (r1.below hb5) ?_; intro w3 r3 o3 s3)
        | (refine ld_mc rfl rfl rfl r3 ?_)
        | (refine st_mc rfl rfl rfl rfl ((z1.below hb5).onto o3 (by omega)) o1 o2 ?_; intro w6 r6 o6 s6))
        refine ret_mc rfl rfl r6 rfl ?_
        have hB3 := hB2.trans (hb5.mono hB2.size)
        have hB6 := below_onto (below_onto hB3 o3 (Nat.le_refl _)) o6 (by omega)
        exact ⟨_, rfl, ⟨rfl, hr.below hB6, ha.below hB6⟩, fun _ _ => on_below hB6⟩
      · skip
        have e : m.write 241 n = { m with p := ⟨m.p.d, false, false, 0, 0, false⟩ } := by simp [Mc.write, hbig]
        rw [e]
        clear e
        go_enter Tryz.func148, Tryz.ntmps148
        go_wp2_with (first
        | (refine box_m rfl rfl hv ?_; intro w0 r0 hB0)
        | (refine al_mc rfl rfl ?_; intro w1 z1 hB1; have r1 := r0.below hB1; have hB2 := hB0.trans (hB1.mono hB0.size); have l0 := r0.lt; have l1 := r1.lt; have lz := z1.lt; have kk := (cw r1).pd)
        | (refine st_port' (s := ⟨m.p.d, false, false, 0, 0, false⟩) rfl rfl rfl rfl r1 ?_; intro w3 r3 o3 s3)
        | (refine ld_mc rfl rfl rfl r3 ?_)
        | (refine st_mc rfl rfl rfl rfl ((z1).onto o3 (by omega)) o1 o2 ?_; intro w6 r6 o6 s6))
        refine ret_mc rfl rfl r6 rfl ?_
        have hB3 := hB2
        have hB6 := below_onto (below_onto hB3 o3 (Nat.le_refl _)) o6 (by omega)
        exact ⟨_, rfl, ⟨rfl, hr.below hB6, ha.below hB6⟩, fun _ _ => on_below hB6⟩
    by_cases c243 : q = 243
    · subst c243
      have e : m.write 243 n = { m with t := { m.t with v := n } } := by simp [Mc.write]
      rw [e]
      clear e
      go_enter Tryz.func148, Tryz.ntmps148
      go_wp2_with (first
        | (refine box_m rfl rfl hv ?_; intro w0 r0 hB0)
        | (refine al_mc rfl rfl ?_; intro w1 z1 hB1; have r1 := r0.below hB1; have hB2 := hB0.trans (hB1.mono hB0.size); have l0 := r0.lt; have l1 := r1.lt; have lz := z1.lt)
        | (refine st_num (m' := { m with t := { m.t with v := n } }) rfl rfl rfl rfl r1 rfl rfl ?_; intro w3 r3 o3 s3)
        | (refine ld_mc rfl rfl rfl r3 ?_)
        | (refine st_mc rfl rfl rfl rfl ((z1).onto o3 (by omega)) o1 o2 ?_; intro w6 r6 o6 s6))
      refine ret_mc rfl rfl r6 rfl ?_
      have hB3 := hB2
      have hB6 := below_onto (below_onto hB3 o3 (Nat.le_refl _)) o6 (by omega)
      exact ⟨_, rfl, ⟨rfl, hr.below hB6, ha.below hB6⟩, fun _ _ => on_below hB6⟩
    by_cases c244 : q = 244
    · subst c244
      have e : m.write 244 n = { m with t := { m.t with s := n } } := by simp [Mc.write]
      rw [e]
      clear e
      go_enter Tryz.func148, Tryz.ntmps148
      go_wp2_with (first
        | (refine box_m rfl rfl hv ?_; intro w0 r0 hB0)
        | (refine al_mc rfl rfl ?_; intro w1 z1 hB1; have r1 := r0.below hB1; have hB2 := hB0.trans (hB1.mono hB0.size); have l0 := r0.lt; have l1 := r1.lt; have lz := z1.lt)
        | (refine st_num (m' := { m with t := { m.t with s := n } }) rfl rfl rfl rfl r1 rfl rfl ?_; intro w3 r3 o3 s3)
        | (refine ld_mc rfl rfl rfl r3 ?_)
        | (refine st_mc rfl rfl rfl rfl ((z1).onto o3 (by omega)) o1 o2 ?_; intro w6 r6 o6 s6))
      refine ret_mc rfl rfl r6 rfl ?_
      have hB3 := hB2
      have hB6 := below_onto (below_onto hB3 o3 (Nat.le_refl _)) o6 (by omega)
      exact ⟨_, rfl, ⟨rfl, hr.below hB6, ha.below hB6⟩, fun _ _ => on_below hB6⟩
    by_cases c245 : q = 245
    · subst c245
      have e : m.write 245 n = { m with t := { m.t with m := n % 8 } } := by simp [Mc.write]
      rw [e]
      clear e
      go_enter Tryz.func148, Tryz.ntmps148
      go_wp2_with (first
        | (refine box_m rfl rfl hv ?_; intro w0 r0 hB0)
        | (refine al_mc rfl rfl ?_; intro w1 z1 hB1; have r1 := r0.below hB1; have hB2 := hB0.trans (hB1.mono hB0.size); have l0 := r0.lt; have l1 := r1.lt; have lz := z1.lt)
        | (refine st_num (m' := { m with t := { m.t with m := n % 8 } }) rfl rfl rfl rfl r1 rfl rfl ?_; intro w3 r3 o3 s3)
        | (refine ld_mc rfl rfl rfl r3 ?_)
        | (refine st_mc rfl rfl rfl rfl ((z1).onto o3 (by omega)) o1 o2 ?_; intro w6 r6 o6 s6))
      refine ret_mc rfl rfl r6 rfl ?_
      have hB3 := hB2
      have hB6 := below_onto (below_onto hB3 o3 (Nat.le_refl _)) o6 (by omega)
      exact ⟨_, rfl, ⟨rfl, hr.below hB6, ha.below hB6⟩, fun _ _ => on_below hB6⟩
    by_cases c246 : q = 246
    · subst c246
      have e : m.write 246 n = { m with fl := n % 8 } := by simp [Mc.write]
      rw [e]
      clear e
      go_enter Tryz.func148, Tryz.ntmps148
      go_wp2_with (first
        | (refine box_m rfl rfl hv ?_; intro w0 r0 hB0)
        | (refine al_mc rfl rfl ?_; intro w1 z1 hB1; have r1 := r0.below hB1; have hB2 := hB0.trans (hB1.mono hB0.size); have l0 := r0.lt; have l1 := r1.lt; have lz := z1.lt)
        | (refine st_num (m' := { m with fl := n % 8 }) rfl rfl rfl rfl r1 rfl rfl ?_; intro w3 r3 o3 s3)
        | (refine ld_mc rfl rfl rfl r3 ?_)
        | (refine st_mc rfl rfl rfl rfl ((z1).onto o3 (by omega)) o1 o2 ?_; intro w6 r6 o6 s6))
      refine ret_mc rfl rfl r6 rfl ?_
      have hB3 := hB2
      have hB6 := below_onto (below_onto hB3 o3 (Nat.le_refl _)) o6 (by omega)
      exact ⟨_, rfl, ⟨rfl, hr.below hB6, ha.below hB6⟩, fun _ _ => on_below hB6⟩
    by_cases c247 : q = 247
    · subst c247
      have e : m.write 247 n = { m with ms := n % 8 } := by simp [Mc.write]
      rw [e]
      clear e
      go_enter Tryz.func148, Tryz.ntmps148
      go_wp2_with (first
        | (refine box_m rfl rfl hv ?_; intro w0 r0 hB0)
        | (refine al_mc rfl rfl ?_; intro w1 z1 hB1; have r1 := r0.below hB1; have hB2 := hB0.trans (hB1.mono hB0.size); have l0 := r0.lt; have l1 := r1.lt; have lz := z1.lt)
        | (refine st_num (m' := { m with ms := n % 8 }) rfl rfl rfl rfl r1 rfl rfl ?_; intro w3 r3 o3 s3)
        | (refine ld_mc rfl rfl rfl r3 ?_)
        | (refine st_mc rfl rfl rfl rfl ((z1).onto o3 (by omega)) o1 o2 ?_; intro w6 r6 o6 s6))
      refine ret_mc rfl rfl r6 rfl ?_
      have hB3 := hB2
      have hB6 := below_onto (below_onto hB3 o3 (Nat.le_refl _)) o6 (by omega)
      exact ⟨_, rfl, ⟨rfl, hr.below hB6, ha.below hB6⟩, fun _ _ => on_below hB6⟩
    have e : m.write q n = m := by simp [Mc.write, hni, c240, c241, c243, c244, c245, c246, c247]
    rw [e]
    clear e
    by_cases hlo : 128 ≤ q
    · have hhi : ¬ q < 192 := by omega
      go_enter Tryz.func148, Tryz.ntmps148
      go_wp2_with (first
        | (refine box_m rfl rfl hv ?_; intro w0 r0 hB0)
        | (refine al_mc rfl rfl ?_; intro w1 z1 hB1; have r1 := r0.below hB1; have hB2 := hB0.trans (hB1.mono hB0.size); have l0 := r0.lt)
        | (refine ld_mc rfl rfl rfl r1 ?_)
        | (refine st_mc rfl rfl rfl rfl z1 o1 o2 ?_; intro w6 r6 o6 s6))
      refine ret_mc rfl rfl r6 rfl ?_
      have hB6 := below_onto hB2 o6 (by omega)
      exact ⟨_, rfl, ⟨rfl, hr.below hB6, ha.below hB6⟩, fun _ _ => on_below hB6⟩
    · go_enter Tryz.func148, Tryz.ntmps148
      go_wp2_with (first
        | (refine box_m rfl rfl hv ?_; intro w0 r0 hB0)
        | (refine al_mc rfl rfl ?_; intro w1 z1 hB1; have r1 := r0.below hB1; have hB2 := hB0.trans (hB1.mono hB0.size); have l0 := r0.lt)
        | (refine ld_mc rfl rfl rfl r1 ?_)
        | (refine st_mc rfl rfl rfl rfl z1 o1 o2 ?_; intro w6 r6 o6 s6))
      refine ret_mc rfl rfl r6 rfl ?_
      have hB6 := below_onto hB2 o6 (by omega)
      exact ⟨_, rfl, ⟨rfl, hr.below hB6, ha.below hB6⟩, fun _ _ => on_below hB6⟩
theorem l6Write_spec (v : Value) (m : Mc) (q n : Int) (w : World) (base : Nat) (hm : MOwn base w v m) (hR : Right m) (hq : 0 ≤ q ∧ q ≤ 255) (hn : 0 ≤ n ∧ n ≤ 255) (hbase : base ≤ w.heap.size) :
    Calls Tryz.prog 148 #[v, .int .i64 q, .int .i64 n] w fun e w' => ∃ v', e = .returned v' ∧ MOwn base w' v' (m.write q n) ∧ Below base w w' := by
  obtain ⟨vr, va, hv, hr, ha, hap⟩ := hm
  refine (l6Write_on v vr va m q n w base hv hr ha hap hR hq hn hbase).mono ?_
  rintro e w' ⟨v', rfl, ⟨hv', h1, h2⟩, hb⟩
  obtain ⟨g, cap, rfl, hg1, hg2, hg3, hg4⟩ := ha.block (by have := hR.ram; omega)
  exact ⟨v', rfl, ⟨_, _, hv', h1, h2, hap⟩, (hb g rfl).below hg1 hbase⟩
end Go.Proofs.YtocofjimkfffeaaGreatDoor.Mem
