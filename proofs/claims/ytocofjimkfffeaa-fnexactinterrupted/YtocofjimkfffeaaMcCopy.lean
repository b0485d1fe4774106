/-
  A machine's copy, as the document's model makes it.
-/
import Derived.Test.YtocofjimkfffeaaMcW
namespace Go.Proofs.Ytocofjimkfffeaa.Mem
open Go.ChangeShapes Go.WideShapes Go.RowKit Base Num Slc Rw Tmr Srl Rom RomOf
set_option linter.unusedVariables false

set_option maxHeartbeats 1000000 in
theorem l6Copy_spec (v : Value) (m : Mc) (w : World) (hm : MSl w v m) (h1 : m.rom.length ≤ 4000000) (h2 : m.ram.length ≤ 4000000) :
    Calls Try.prog 26 #[v] w fun e w' => ∃ v', e = .returned v' ∧ MOwn w.heap.size w' v' m ∧ Below w.heap.size w w' := by
  obtain ⟨vr, va, rfl, hr, ha⟩ := hm
  obtain ⟨vv, hvv⟩ : ∃ vv, m.val vr va = vv := ⟨_, rfl⟩
  rw [hvv]
  go_enter Try.func26, Try.ntmps26
  go_wp2_with (first
    | (refine box_m rfl rfl hvv.symm ?_; intro w0 r0 hB0; have k0 := (cw r0).vr; have l0 := r0.lt)
    | (refine al_mc rfl rfl ?_; intro w1 z1 hB1; have r1 := r0.below hB1; have k1 := (cw r1).vr; have l1 := r1.lt; have hB2 := hB0.trans (hB1.mono hB0.size)))
  go_at_call 45
  refine (copy_spec vr m.rom _ (hr.below hB2) (by omega)).mono ?_
  rintro e w2 ⟨v1, rfl, ho1, hb1⟩
  have hB3 := hB2.trans (hb1.mono hB2.size)
  have r2 := r1.below hb1
  have z2 := z1.below hb1
  have hzl := z2.lt
  have hwl := r2.lt
  have hgz : w.heap.size < w0.heap.size := l0
  have s01 := hB1.size
  have hz1 := z1.lt
  clear k0 k1 l0 l1 r0 r1 z1
  go_wp2_with (first
    | (refine st_rom rfl rfl rfl rfl r2 (one_own ho1) m.rom ?_; intro w3 r3 o3 s3; have k3 := (cw r3).va))
  go_at_call 45
  have hB4 := below_onto hB3 o3 (Nat.le_refl _)
  refine (copy_spec va m.ram _ (ha.below hB4) (by omega)).mono ?_
  rintro e w4 ⟨v2, rfl, ho2, hb2⟩
  have hB5 := hB4.trans (hb2.mono hB4.size)
  have r4 := r3.below hb2
  have z4 := (z2.onto o3 (by omega)).below hb2
  have ho1' := (ho1.onto o3 (fun e => by have := (ho1.lt _ e).1; have := hB2.size; omega)).below hb2
  have ho2b := ho2.lt
  have ho1b := ho1.lt
  have hs3 := s3
  clear k3 r2 r3 z2
  go_wp2_with (first
    | (refine st_ram rfl rfl rfl rfl r4 (one_own ho2) m.ram ?_; intro w5 r5 o5 s5)
    | (refine ld_mc rfl rfl rfl r5 ?_)
    | (refine st_mc rfl rfl rfl rfl (z4.onto o5 (by omega)) (one_own ho1) (one_own ho2) ?_; intro w6 r6 o6 s6))
  refine ret_mc rfl rfl r6 rfl ?_
  have hB6 := below_onto (below_onto hB5 o5 (Nat.le_refl _)) o6 (by omega)
  refine ⟨_, rfl, ⟨v1, v2, rfl, ?_, ?_, ?_⟩, hB6⟩
  · exact ((ho1'.onto o5 (fun e => by have := (ho1b _ e).1; have := hB2.size; omega)).onto o6 (fun e => by have := (ho1b _ e).1; omega)).mono (by have := hB2.size; omega)
  · exact ((ho2.onto o5 (fun e => by have := (ho2b _ e).1; omega)).onto o6 (fun e => by have := (ho2b _ e).1; omega)).mono (by have := hB4.size; omega)
  · intro k hk hk'
    have := (ho1b k hk).2
    have := (ho2b k hk').1
    omega
end Go.Proofs.Ytocofjimkfffeaa.Mem
