/-
  The cable's port, as the program has it: a start, and an answer.
-/
import Derived.Test.YtocofjimkfffeaaSrlI
import Derived.Test.YtocofjimkfffeaaRow2
namespace Go.Proofs.Ytocofjimkfffeaa.Srl
open Go.ChangeShapes Go.WideShapes Go.RowKit Base Num Slc Rw Reg Tmr
set_option linter.unusedVariables false

theorem Sr.starts_port (s : Sr) (lead : Bool) (now : Int) : s.starts lead now = (s.ok && clk now && (!lead || clk (now + 32))) := by
  rw [Bool.eq_iff_iff]
  cases lead
  · simp [Sr.starts, clk, inn]
  · simp [Sr.starts, clk, inn]
    constructor
    · rintro ⟨h, _⟩; exact ⟨⟨h, by omega⟩, by omega⟩
    · rintro ⟨⟨h, _⟩, _⟩; exact ⟨h, by omega⟩
theorem info_i64 : (Try.prog.info? 2).map (·.size) = some 1 := by kernel_rfl
theorem info_bool : (Try.prog.info? 4).map (·.size) = some 1 := by kernel_rfl
set_option maxHeartbeats 4000000 in
theorem serialStart_impl (s : Sr) (lead : Bool) (now : Int) (w : World) :
    Calls Try.prog 73 #[s.val, .bool lead, .int .i64 now] w fun e w' => e = .returned (s.start lead now).val ∧ Below w.heap.size w w' := by
  rw [Sr.eta s]
  have hsp := Sr.starts_port s lead now
  cases hok : s.ok
  · rw [Sr.start_no (by simp [hsp, hok])]
    go_enter Try.func73, Try.ntmps73
    go_wp2_with (first
      | (go_at_call 42; refine (serialOk_impl s _).mono ?_; rintro e w1 ⟨rfl, hb⟩; rw [hok]; obtain ⟨r1, r2, hB⟩ := box2 hb)
      | (refine st_sr rfl rfl rfl rfl r2 rfl ?_; intro w2 r3 ho2 hs2))
    refine ret_row rfl rfl r3 und_sr rfl info_sr rfl ?_
    exact ⟨rfl, below_onto hB ho2 (by omega)⟩
  cases hk : clk now
  · rw [Sr.start_no (by simp [hsp, hk])]
    go_enter Try.func73, Try.ntmps73
    go_wp2_with (first
      | (go_at_call 42; refine (serialOk_impl s _).mono ?_; rintro e w1 ⟨rfl, hb⟩; rw [hok]; obtain ⟨r1, r2, hB⟩ := box2 hb)
      | (go_at_call 51; refine (clockOk_impl _ _).mono ?_; rintro e w1 ⟨rfl, rfl⟩; rw [hk])
      | (refine st_sr rfl rfl rfl rfl r2 rfl ?_; intro w2 r3 ho2 hs2))
    refine ret_row rfl rfl r3 und_sr rfl info_sr rfl ?_
    exact ⟨rfl, below_onto hB ho2 (by omega)⟩
  have hn := clk_true hk
  cases lead
  · have e : s.start false now = ⟨s.d, true, false, 8, 0, false⟩ := by simp [Sr.start, hsp, hok, hk]
    rw [e]
    go_enter Try.func73, Try.ntmps73
    go_wp2_with (first
      | (go_at_call 42; refine (serialOk_impl s _).mono ?_; rintro e w1 ⟨rfl, hb⟩; rw [hok]; obtain ⟨r1, r2, hB⟩ := box2 hb; clear hb; have c1 := r1.cell)
      | (go_at_call 51; refine (clockOk_impl _ _).mono ?_; rintro e w1 ⟨rfl, rfl⟩; rw [hk])
      | (refine st_port rfl rfl rfl rfl (Row.new _ _ _) rfl ?_; intro w2 r4 ho2 hs2; have r5 := (r2.alloc _).onto ho2 (Nat.ne_of_lt r2.lt); replace hB := below_onto (hB.alloc hB.size _) ho2 hB.size; have c4 := r4.cell; clear ho2 hs2)
      | (go_at_call 74; refine (serial_impl ⟨s.d, true, false, 8, 0, false⟩ _).mono ?_; rintro e w3 ⟨rfl, hb3⟩; replace r5 := r5.below hb3; replace hB := below_more hB hb3; rw [Sr.eta])
      | (refine st_sr rfl rfl rfl rfl r5 rfl ?_; intro w4 r6 ho4 hs4))
    refine ret_row rfl rfl r6 und_sr rfl info_sr rfl ?_
    exact ⟨rfl, below_onto hB ho4 (by omega)⟩
  cases hk2 : clk (now + 32)
  · rw [Sr.start_no (by simp [hsp, hk2])]
    go_enter Try.func73, Try.ntmps73
    go_wp2_with (first
      | (go_at_call 42; refine (serialOk_impl s _).mono ?_; rintro e w1 ⟨rfl, hb⟩; rw [hok]; obtain ⟨r1, r2, hB⟩ := box2 hb)
      | (go_at_call 51; refine (clockOk_impl _ _).mono ?_; rintro e w1 ⟨rfl, rfl⟩; first | rw [hk] | rw [hk2])
      | (refine st_sr rfl rfl rfl rfl r2 rfl ?_; intro w2 r3 ho2 hs2))
    refine ret_row rfl rfl r3 und_sr rfl info_sr rfl ?_
    exact ⟨rfl, below_onto hB ho2 (by omega)⟩
  · have e : s.start true now = ⟨s.d, true, true, 8, now + 32, false⟩ := by simp [Sr.start, hsp, hok, hk, hk2]
    rw [e]
    go_enter Try.func73, Try.ntmps73
    go_wp2_with (first
      | (go_at_call 42; refine (serialOk_impl s _).mono ?_; rintro e w1 ⟨rfl, hb⟩; rw [hok]; obtain ⟨r1, r2, hB⟩ := box2 hb; clear hb; have c1 := r1.cell)
      | (go_at_call 51; refine (clockOk_impl _ _).mono ?_; rintro e w1 ⟨rfl, rfl⟩; first | rw [hk] | rw [hk2])
      | (refine st_port rfl rfl rfl rfl (Row.new _ _ _) rfl ?_; intro w2 r4 ho2 hs2; have r5 := (r2.alloc _).onto ho2 (Nat.ne_of_lt r2.lt); have n5 : w.heap.size + 1 ≠ _ := Nat.ne_of_lt r2.lt; have hB0 := hB.size; replace hB := below_onto (hB.alloc hB.size _) ho2 hB.size; have c4 := r4.cell; clear ho2 hs2)
      | (refine st_int rfl rfl rfl rfl r4 info_i64 rfl ?_; intro w6 r7 ho6 hs6; simp only [List.setIfInBounds_toArray, List.set_cons_succ, List.set_cons_zero] at r7; replace r5 := r5.onto ho6 n5; replace hB := below_onto hB ho6 hB0; have c7 := r7.cell; clear ho6 hs6)
      | (go_at_call 74; refine (serial_impl ⟨s.d, true, true, 8, now + 32, false⟩ _).mono ?_; rintro e w3 ⟨rfl, hb3⟩; replace r5 := r5.below hb3; replace hB := below_more hB hb3; rw [Sr.eta])
      | (refine st_sr rfl rfl rfl rfl r5 rfl ?_; intro w4 r6 ho4 hs4))
    refine ret_row rfl rfl r6 und_sr rfl info_sr rfl ?_
    exact ⟨rfl, below_onto hB ho4 (by omega)⟩
end Go.Proofs.Ytocofjimkfffeaa.Srl
