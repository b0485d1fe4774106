/-
  The model's small functions of the processor: pushing, popping, reckoning, jumping.
-/
import Derived.Test.YtocofjimkfffeaaSp
namespace Go.Proofs.Ytocofjimkfffeaa.Mem
open Go.ChangeShapes Go.WideShapes Go.RowKit Base Num Slc Rw Tmr Srl Rom RomOf Opl Reg
set_option linter.unusedVariables false
set_option linter.unusedSimpArgs false
section
variable {base : Nat} {w : World} {x y v : Value} {m : Mc}

theorem l7Push_spec (hv : v = m.val x y) (h : Ow base w x y m) (hok : m.ok = true) (n : Int) (hn : bok n = true) :
    Calls Try.prog 44 #[v, .int .i64 n] w fun e w' => e = .returned (.tuple #[(m.psh n).val x y, .int .i64 (m.pshOut n)]) ∧ Ow base w' x y (m.psh n) ∧ But y w w' := by
  obtain ⟨g, hg, hgl⟩ := ram_block h.hy hok
  have hsp := bok_iff.1 (okm.1 hok).sp
  have hrem := rem_pos' (a := m.sp + 255) (r := 256) (by omega)
  have hS : ({ m with sp := (m.sp + 255) % 256 } : Mc).ok = true := ok_sp hok _
  go_enter Try.func44, Try.ntmps44
  go_wp2_with (first
    | (refine box_m rfl rfl hv ?_; intro w0 r0 hB0)
    | (refine al_mc rfl rfl ?_; intro w1 z1 hB1; have r1 := r0.below hB1; have hB2 := hB0.trans (hB1.mono hB0.size); have l0 := r0.lt; have lz := z1.lt; have h1 := h.below hB2; have ks := (cw r1).sp)
    | (refine st_num (m' := { m with sp := (m.sp + 255) % 256 }) rfl rfl rfl rfl r1 rfl rfl ?_; intro w2 r2 o2 s2; have z2 := z1.onto o2 (by omega); have h2 := (h1.at o2 (fun e => by have := (h.hx.lt _ e).2; omega) (fun e => by have := (h.hy.lt _ e).2; omega)).as (m' := { m with sp := (m.sp + 255) % 256 }) rfl rfl; have ks2 := (cw r2).sp; have hB3 := below_onto hB2 o2 (by omega))
    | (refine ld_mc rfl rfl rfl r2 ?_)
    | (go_at_call 57; refine (l7Put_spec rfl h2 hS _ _ (bok_mod _) hn).mono ?_; rintro e w3 ⟨rfl, h3, hb3⟩; have z3 := hb3.row hg z2 (by omega))
    | (refine st_mc rfl rfl rfl rfl z3 (one_own h.hx) (one_own h.hy) ?_; intro w6 r6 o6 s6))
  refine ret_mc2 rfl rfl r6 rfl rfl ?_
  exact ⟨rfl, h3.at o6 (fun e => by have := (h.hx.lt _ e).2; omega) (fun e => by have := (h.hy.lt _ e).2; omega), ((But.of hB3).trans hb3).new o6 (by omega)⟩
end
end Go.Proofs.Ytocofjimkfffeaa.Mem
