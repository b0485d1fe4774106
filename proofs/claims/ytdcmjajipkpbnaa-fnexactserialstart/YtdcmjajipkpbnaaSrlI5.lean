/-
  The cable's port, as the program has it: a beat.
-/
import Derived.Test.YtdcmjajipkpbnaaSrlI4
namespace Go.Proofs.Ytdcmjajipkpbnaa.Srl
open Go.ChangeShapes Go.WideShapes Go.RowKit Base Num Slc Rw Reg Tmr
set_option linter.unusedVariables false

def BeatSays (s : Sr) (bit : Int) (r : Sr × Int × Bool) (w : World) : Prop :=
    Calls Try.prog 15 #[s.val, .int .i64 bit] w fun e w' => e = .returned (.tuple #[r.1.val, .int .i64 r.2.1, .bool r.2.2]) ∧ Below w.heap.size w w'
set_option maxHeartbeats 2000000 in
theorem beat_wrong (s : Sr) (bit : Int) (w : World) (hok : s.ok = false) : BeatSays s bit (Sr.nul, 0, false) w := by
  unfold BeatSays
  rw [Sr.eta s]
  go_enter Try.func15, Try.ntmps15
  go_wp2_with (first
    | (go_at_call 17; refine (serialOk_impl s _).mono ?_; rintro e w1 ⟨rfl, hb⟩; rw [hok]; obtain ⟨r1, r2, hB⟩ := box2 hb; clear hb; have c1 := r1.cell)
    | (go_at_call 31; refine (portOf_impl s _).mono ?_; rintro e w3 ⟨rfl, hb3⟩; replace r1 := r1.below hb3; replace r2 := r2.below hb3; replace hB := below_more hB hb3; clear hb3; rw [Sr.eta_port])
    | (refine st_port rfl rfl rfl rfl (Row.new _ _ _) rfl ?_; intro w2 r4 ho2 hs2; replace r1 := (r1.alloc _).onto ho2 (Nat.ne_of_lt r1.lt); replace r2 := (r2.alloc _).onto ho2 (Nat.ne_of_lt r2.lt); replace hB := below_onto (hB.alloc hB.size _) ho2 hB.size; have c4 := r4.cell; have c1 := r1.cell; clear ho2 hs2)
    | (refine st_sr rfl rfl rfl rfl r2 rfl ?_; intro w2 r3 ho2 hs2))
  refine ret_row_tmp2 rfl rfl r3 und_sr rfl info_sr rfl rfl rfl ?_
  exact ⟨rfl, below_onto hB ho2 (by omega)⟩
set_option maxHeartbeats 2000000 in
theorem beat_bit (s : Sr) (bit : Int) (w : World) (hok : s.ok = true) (hbit : inn bit 0 1 = false) : BeatSays s bit (Sr.nul, 0, false) w := by
  unfold BeatSays
  rw [Sr.eta s]
  go_enter Try.func15, Try.ntmps15
  go_wp2_with (first
    | (go_at_call 17; refine (serialOk_impl s _).mono ?_; rintro e w1 ⟨rfl, hb⟩; rw [hok]; obtain ⟨r1, r2, hB⟩ := box2 hb; clear hb; have c1 := r1.cell)
    | (go_at_call 33; refine (bitOk_impl _ _).mono ?_; rintro e w1 ⟨rfl, rfl⟩; rw [hbit])
    | (go_at_call 31; refine (portOf_impl s _).mono ?_; rintro e w3 ⟨rfl, hb3⟩; replace r1 := r1.below hb3; replace r2 := r2.below hb3; replace hB := below_more hB hb3; clear hb3; rw [Sr.eta_port])
    | (refine st_port rfl rfl rfl rfl (Row.new _ _ _) rfl ?_; intro w2 r4 ho2 hs2; replace r1 := (r1.alloc _).onto ho2 (Nat.ne_of_lt r1.lt); replace r2 := (r2.alloc _).onto ho2 (Nat.ne_of_lt r2.lt); replace hB := below_onto (hB.alloc hB.size _) ho2 hB.size; have c4 := r4.cell; have c1 := r1.cell; clear ho2 hs2)
    | (refine st_sr rfl rfl rfl rfl r2 rfl ?_; intro w2 r3 ho2 hs2))
  refine ret_row_tmp2 rfl rfl r3 und_sr rfl info_sr rfl rfl rfl ?_
  exact ⟨rfl, below_onto hB ho2 (by omega)⟩
set_option maxHeartbeats 2000000 in
theorem beat_idle (d n x : Int) (l t : Bool) (bit : Int) (w : World) (hok : (Sr.mk d false l n x t).ok = true) (hbit : inn bit 0 1 = true) : BeatSays ⟨d, false, l, n, x, t⟩ bit (⟨d, false, l, n, x, t⟩, 1, false) w := by
  unfold BeatSays
  rw [Sr.eta]
  go_enter Try.func15, Try.ntmps15
  go_wp2_with (first
    | (go_at_call 17; refine (serialOk_impl ⟨d, false, l, n, x, t⟩ _).mono ?_; rintro e w1 ⟨rfl, hb⟩; rw [hok]; obtain ⟨r1, r2, hB⟩ := box2 hb; clear hb; have c1 := r1.cell)
    | (go_at_call 33; refine (bitOk_impl _ _).mono ?_; rintro e w1 ⟨rfl, rfl⟩; rw [hbit])
    | (go_at_call 31; refine (portOf_impl ⟨d, false, l, n, x, t⟩ _).mono ?_; rintro e w3 ⟨rfl, hb3⟩; replace r1 := r1.below hb3; replace r2 := r2.below hb3; replace hB := below_more hB hb3; clear hb3; rw [Sr.eta_port])
    | (refine st_port rfl rfl rfl rfl (Row.new _ _ _) rfl ?_; intro w2 r4 ho2 hs2; replace r1 := (r1.alloc _).onto ho2 (Nat.ne_of_lt r1.lt); replace r2 := (r2.alloc _).onto ho2 (Nat.ne_of_lt r2.lt); replace hB := below_onto (hB.alloc hB.size _) ho2 hB.size; have c4 := r4.cell; have c1 := r1.cell; clear ho2 hs2)
    | (refine st_sr rfl rfl rfl rfl r2 rfl ?_; intro w2 r3 ho2 hs2))
  refine ret_row_tmp2 rfl rfl r3 und_sr rfl info_sr rfl rfl rfl ?_
  exact ⟨rfl, below_onto hB ho2 (by omega)⟩
set_option maxHeartbeats 2000000 in
theorem beat_leads (d n x : Int) (t : Bool) (bit : Int) (w : World) (hok : (Sr.mk d true true n x t).ok = true) (hbit : inn bit 0 1 = true) : BeatSays ⟨d, true, true, n, x, t⟩ bit (⟨d, true, true, n, x, t⟩, 1, false) w := by
  unfold BeatSays
  rw [Sr.eta]
  go_enter Try.func15, Try.ntmps15
  go_wp2_with (first
    | (go_at_call 17; refine (serialOk_impl ⟨d, true, true, n, x, t⟩ _).mono ?_; rintro e w1 ⟨rfl, hb⟩; rw [hok]; obtain ⟨r1, r2, hB⟩ := box2 hb; clear hb; have c1 := r1.cell)
    | (go_at_call 33; refine (bitOk_impl _ _).mono ?_; rintro e w1 ⟨rfl, rfl⟩; rw [hbit])
    | (go_at_call 31; refine (portOf_impl ⟨d, true, true, n, x, t⟩ _).mono ?_; rintro e w3 ⟨rfl, hb3⟩; replace r1 := r1.below hb3; replace r2 := r2.below hb3; replace hB := below_more hB hb3; clear hb3; rw [Sr.eta_port])
    | (refine st_port rfl rfl rfl rfl (Row.new _ _ _) rfl ?_; intro w2 r4 ho2 hs2; replace r1 := (r1.alloc _).onto ho2 (Nat.ne_of_lt r1.lt); replace r2 := (r2.alloc _).onto ho2 (Nat.ne_of_lt r2.lt); replace hB := below_onto (hB.alloc hB.size _) ho2 hB.size; have c4 := r4.cell; have c1 := r1.cell; clear ho2 hs2)
    | (refine st_sr rfl rfl rfl rfl r2 rfl ?_; intro w2 r3 ho2 hs2))
  refine ret_row_tmp2 rfl rfl r3 und_sr rfl info_sr rfl rfl rfl ?_
  exact ⟨rfl, below_onto hB ho2 (by omega)⟩
set_option maxHeartbeats 2000000 in
theorem beat_true (d n x : Int) (t : Bool) (bit : Int) (w : World) (hok : (Sr.mk d true false n x t).ok = true) (hbit : inn bit 0 1 = true) (hd : 0 ≤ d ∧ d ≤ 255) (hb' : 0 ≤ bit ∧ bit ≤ 1) (hn : 1 ≤ n ∧ n ≤ 8) (h0 : decide (n - 1 = 0) = true) : BeatSays ⟨d, true, false, n, x, t⟩ bit (⟨2 * d % 256 + bit, false, false, n - 1, x, t⟩, d / 128, true) w := by
  unfold BeatSays
  rw [Sr.eta]
  generalize ho : (⟨2 * d % 256 + bit, false, false, n - 1, x, t⟩ : Sr) = out
  have hon : decide (out.n = 0) = true := by subst ho; exact h0
  generalize hb4 : w.heap.size + 1 = b4
  have h4 : w.heap.size ≤ b4 := by omega
  go_enter Try.func15, Try.ntmps15
  go_wp2_with (first
    | (go_at_call 17; refine (serialOk_impl ⟨d, true, false, n, x, t⟩ _).mono ?_; rintro e w1 ⟨rfl, hb⟩; rw [hok]; obtain ⟨r1, r2, hB⟩ := box2 hb; clear hb; have c1 := r1.cell)
    | (go_at_call 33; refine (bitOk_impl _ _).mono ?_; rintro e w1 ⟨rfl, rfl⟩; rw [hbit])
    | (go_at_call 31; refine (portOf_impl ⟨d, true, false, n, x, t⟩ _).mono ?_; rintro e w3 ⟨rfl, hb3⟩; replace r1 := r1.below hb3; replace r2 := r2.below hb3; replace hB := below_more hB hb3; clear hb3; rw [Sr.eta_port])
    | (refine st_port rfl rfl rfl rfl (Row.new _ _ _) rfl ?_; intro w2 r4 ho2 hs2; have n5 : w.heap.size + 1 ≠ _ := Nat.ne_of_lt r2.lt; have hB0 := hB.size; replace r2 := (r2.alloc _).onto ho2 (Nat.ne_of_lt r2.lt); replace hB := below_onto (hB.alloc hB.size _) ho2 hB.size; have c4 := r4.cell; clear ho2 hs2)
    | (go_at_call 32; refine (highBit_impl _ _ _ hd).mono ?_; rintro e w5 ⟨rfl, hb5⟩; replace r2 := r2.below hb5; replace r4 := r4.below hb5; have c4 := r4.cell; replace hB := below_more hB hb5; clear hb5)
    | (go_at_call 34; refine (shifted_impl _ _ _ _ hd hb' hn).mono ?_; rintro e w5 ⟨rfl, hb5⟩; replace r2 := r2.below hb5; replace r4 := r4.below hb5; replace hB := below_more hB hb5; clear hb5)
    | (refine st_two rfl rfl rfl rfl r4 info_shift rfl ?_; intro w6 r6 ho6 hs6; simp only [List.setIfInBounds_toArray, List.set_cons_succ, List.set_cons_zero, Nat.zero_add] at r6; replace r2 := r2.onto ho6 n5; replace hB := below_onto hB ho6 hB0; have c6 := r6.cell; clear ho6 hs6)
    | (go_at_call 35; refine (through_impl _ _ _).mono ?_; rintro e w8 ⟨rfl, hb8⟩; rw [h0]; replace r2 := r2.below hb8; replace r6 := r6.below hb8; replace hB := below_more hB hb8; clear hb8)
    | (refine st_flag rfl rfl rfl rfl r6 info_bool rfl ?_; intro w7 r7 ho7 hs7; simp only [List.setIfInBounds_toArray, List.set_cons_succ, List.set_cons_zero] at r7; replace r2 := r2.onto ho7 n5; replace hB := below_onto hB ho7 hB0; clear ho7 hs7))
  have r8 : Row w7 w3.heap.size #[.int .i64 out.d, .int .i64 out.n, .bool out.b, .bool out.l, .int .i64 out.x, .bool out.t] 57 := by subst ho; exact r7
  have h74 : w3.heap.size ≠ b4 := by omega
  have hG : Gp w b4 w3.heap.size out w7 := ⟨r8, ⟨_, rfl, hb4 ▸ r2⟩, hB⟩
  clear r1 r2 r4 r6 r7 r8 hB n5 hB0 hb4 h0 hok ho hbit hb' hn
  generalize w3.heap.size = b7 at *
  refine region_by_each (by kernel_rfl) (by kernel_rfl) (fun W => Gp w b4 b7 out W)
    (kinds [KIs (.agg #[.int .i64 out.d, .int .i64 out.n, .bool out.b, .bool out.l, .int .i64 out.x, .bool out.t]), KIs (.agg #[.int .i64 out.d, .bool out.b, .bool out.l, .int .i64 out.n, .int .i64 out.x, .bool out.t]), KIs (.int .i64 (d / 128)), KIs (.pointer (some ⟨b7, 0, none⟩)), KIs (.agg #[.int .i64 out.d, .int .i64 out.n]), KIs (.bool true), KRow b4 #[.int .i64 out.d, .bool out.b, .bool out.l, .int .i64 out.n, .int .i64 out.x, .bool out.t] 29, KIs (.int .i64 (d / 128)), KIs (.bool true)])
    (steps 6 (fun k => k = b4) (fun _ => False)) (by kernel_rfl) (kinds_steps ?hY ?hX) hG.drew ?step ?done
  case hY =>
    intro K hK
    simp only [List.mem_cons, List.not_mem_nil, or_false] at hK
    rcases hK with rfl | rfl | rfl | rfl | rfl | rfl | rfl | rfl | rfl
    all_goals first | exact bears_is _ _ | exact bears_any _ | exact bears_int _ | exact bears_row _ _ _ _ (by simp)
  case hX =>
    intro ix K hK hne
    rcases ix with _ | ix
    · obtain rfl := (Option.some.inj hK).symm; first | exact bears_is _ _ | exact bears_any _ | exact bears_int _
    rcases ix with _ | ix
    · obtain rfl := (Option.some.inj hK).symm; first | exact bears_is _ _ | exact bears_any _ | exact bears_int _
    rcases ix with _ | ix
    · obtain rfl := (Option.some.inj hK).symm; first | exact bears_is _ _ | exact bears_any _ | exact bears_int _
    rcases ix with _ | ix
    · obtain rfl := (Option.some.inj hK).symm; first | exact bears_is _ _ | exact bears_any _ | exact bears_int _
    rcases ix with _ | ix
    · obtain rfl := (Option.some.inj hK).symm; first | exact bears_is _ _ | exact bears_any _ | exact bears_int _
    rcases ix with _ | ix
    · obtain rfl := (Option.some.inj hK).symm; first | exact bears_is _ _ | exact bears_any _ | exact bears_int _
    rcases ix with _ | ix
    · exact absurd rfl hne
    rcases ix with _ | ix
    · obtain rfl := (Option.some.inj hK).symm; first | exact bears_is _ _ | exact bears_any _ | exact bears_int _
    rcases ix with _ | ix
    · obtain rfl := (Option.some.inj hK).symm; first | exact bears_is _ _ | exact bears_any _ | exact bears_int _
    simp at hK
  case step =>
    intro L ix o A W hi hI hL hd
    have hin : ix < 9 := by
      by_cases hl : ix < 9
      · exact hl
      · simp [hl] at hi
    have hsz : A.tmps.size = 47 := hI.size
    rcases ix with _ | ix
    · obtain rfl := (Option.some.inj hi).symm
      have e : A.eval (.tmp 7) = .pointer (some ⟨b7, 0, none⟩) := hI.old 7 (by kernel_rfl)
      exact at_op rfl rfl (wp_load_row _ _ rfl _ e _ _ _ _ hI.g.r7.row und_port rfl info_port ⟨_, rfl, rfl, hI.g, steps_other (by decide) (Rel.refl _ _)⟩)
    rcases ix with _ | ix
    · obtain rfl := (Option.some.inj hi).symm
      have e0 : A.eval (.tmp 41) = .agg #[.int .i64 out.d, .int .i64 out.n, .bool out.b, .bool out.l, .int .i64 out.x, .bool out.t] := hI.get hd 0 41 rfl (by kernel_rfl)
      refine at_op rfl rfl (call_op rfl Try.func30 (by kernel_rfl) (by kernel_rfl) ?_)
      simp only [List.map_cons, List.map_nil, e0]
      refine (serial_impl out W).mono ?_
      rintro e w5 ⟨rfl, hb5⟩
      exact ⟨_, rfl, _, rfl, rfl, hI.g.below hb5, steps_other (by decide) (Rel.below hb5)⟩
    rcases ix with _ | ix
    · obtain rfl := (Option.some.inj hi).symm
      have e : A.eval (.tmp 8) = .int .i64 (d / 128) := hI.old 8 (by kernel_rfl)
      exact at_op rfl rfl (move_op rfl ⟨_, rfl, e, hI.g, steps_other (by decide) (Rel.refl _ _)⟩)
    rcases ix with _ | ix
    · obtain rfl := (Option.some.inj hi).symm
      have e : A.eval (.tmp 7) = .pointer (some ⟨b7, 0, none⟩) := hI.old 7 (by kernel_rfl)
      refine at_op rfl rfl (val_op (v := .pointer (some ⟨b7, 0, none⟩)) ?_ ⟨_, rfl, rfl, hI.g, steps_other (by decide) (Rel.refl _ _)⟩)
      unfold execOp
      simp only [List.getElem_toArray, List.getElem_cons_zero, List.getElem_cons_succ, e]
      simp [go_sem]
    rcases ix with _ | ix
    · obtain rfl := (Option.some.inj hi).symm
      have e : A.eval (.tmp 44) = .pointer (some ⟨b7, 0, none⟩) := hI.get hd 3 44 rfl (by kernel_rfl)
      exact at_op rfl rfl (lw_in (cs' := #[.int .i64 out.d, .int .i64 out.n]) rfl e hI.g.r7 und_shift rfl rfl info_shift ⟨_, rfl, rfl, hI.g, steps_other (by decide) (Rel.refl _ _)⟩)
    rcases ix with _ | ix
    · obtain rfl := (Option.some.inj hi).symm
      have e0 : A.eval (.tmp 45) = .agg #[.int .i64 out.d, .int .i64 out.n] := hI.get hd 4 45 rfl (by kernel_rfl)
      refine at_op rfl rfl (call_op rfl Try.func35 (by kernel_rfl) (by kernel_rfl) ?_)
      simp only [List.map_cons, List.map_nil, e0]
      refine (hon ▸ through_impl out.d out.n W).mono ?_
      rintro e w5 ⟨rfl, hb5⟩
      exact ⟨_, rfl, _, rfl, rfl, hI.g.below hb5, steps_other (by decide) (Rel.below hb5)⟩
    rcases ix with _ | ix
    · obtain rfl := (Option.some.inj hi).symm
      have e1 : A.eval (.tmp 42) = .agg #[.int .i64 out.d, .bool out.b, .bool out.l, .int .i64 out.n, .int .i64 out.x, .bool out.t] := hI.get hd 1 42 rfl (by kernel_rfl)
      have e2 : A.eval (.tmp 4) = .pointer (some ⟨b4, 0, none⟩) := hI.old 4 (by kernel_rfl)
      obtain ⟨oc, hrs, hr⟩ := hI.g.r4
      exact at_op rfl rfl (wp_store_row _ _ _ rfl _ _ e2 e1 _ _ hr.row info_sr hrs (by simp [Value.oneCell']) ⟨_, rfl, setRow_heap W _ _ _ _ _ hr.row, hI.g.store h74 h4 _ rfl, steps_same (Rel.onto (row_set _) rfl)⟩)
    rcases ix with _ | ix
    · obtain rfl := (Option.some.inj hi).symm
      have e : A.eval (.tmp 43) = .int .i64 (d / 128) := hI.get hd 2 43 rfl (by kernel_rfl)
      exact at_op rfl rfl (assign_op rfl ⟨_, rfl, e, hI.g, steps_other (by decide) (Rel.refl _ _)⟩)
    rcases ix with _ | ix
    · obtain rfl := (Option.some.inj hi).symm
      have e : A.eval (.tmp 46) = .bool true := hI.get hd 5 46 rfl (by kernel_rfl)
      exact at_op rfl rfl (assign_op rfl ⟨_, rfl, e, hI.g, steps_other (by decide) (Rel.refl _ _)⟩)
    omega
  case done =>
    intro A W hI
    have e4 : A.tmps.getD 4 undef = .pointer (some ⟨b4, 0, none⟩) := hI.old 4 (by kernel_rfl)
    have e5 : A.tmps.getD 5 undef = .int .i64 (d / 128) := hI.slot 7 5 rfl rfl
    have e6 : A.tmps.getD 6 undef = .bool true := hI.slot 8 6 rfl rfl
    have hI6 := hI.eff 6 _ rfl rfl rfl
    have hA := frame_lit A 47 hI.size
    have hg := hI.g
    have hde : A.defers = [] := hI.defers
    rw [hde, show List.range 47 = [0, 1, 2, 3, 4, 5, 6, 7, 8, 9, 10, 11, 12, 13, 14, 15, 16, 17, 18, 19, 20, 21, 22, 23, 24, 25, 26, 27, 28, 29, 30, 31, 32, 33, 34, 35, 36, 37, 38, 39, 40, 41, 42, 43, 44, 45, 46] from rfl] at hA
    simp only [List.map_cons, List.map_nil, e4, e5, e6] at hA
    rw [hA]
    clear hA e4 e5 e6 hI hde
    obtain ⟨vv, hv⟩ := hI6
    have hrow : Row W b4 #[.int .i64 out.d, .bool out.b, .bool out.l, .int .i64 out.n, .int .i64 out.x, .bool out.t] 29 := Row.of hv
    go_wp2
    refine ret_row_tmp2 rfl rfl hrow und_sr rfl info_sr rfl rfl rfl ?_
    exact ⟨rfl, hg.bel⟩
set_option maxHeartbeats 2000000 in
theorem beat_false (d n x : Int) (t : Bool) (bit : Int) (w : World) (hok : (Sr.mk d true false n x t).ok = true) (hbit : inn bit 0 1 = true) (hd : 0 ≤ d ∧ d ≤ 255) (hb' : 0 ≤ bit ∧ bit ≤ 1) (hn : 1 ≤ n ∧ n ≤ 8) (h0 : decide (n - 1 = 0) = false) : BeatSays ⟨d, true, false, n, x, t⟩ bit (⟨2 * d % 256 + bit, true, false, n - 1, x, t⟩, d / 128, false) w := by
  unfold BeatSays
  rw [Sr.eta]
  generalize ho : (⟨2 * d % 256 + bit, true, false, n - 1, x, t⟩ : Sr) = out
  have hon : decide (out.n = 0) = false := by subst ho; exact h0
  generalize hb4 : w.heap.size + 1 = b4
  have h4 : w.heap.size ≤ b4 := by omega
  go_enter Try.func15, Try.ntmps15
  go_wp2_with (first
    | (go_at_call 17; refine (serialOk_impl ⟨d, true, false, n, x, t⟩ _).mono ?_; rintro e w1 ⟨rfl, hb⟩; rw [hok]; obtain ⟨r1, r2, hB⟩ := box2 hb; clear hb; have c1 := r1.cell)
    | (go_at_call 33; refine (bitOk_impl _ _).mono ?_; rintro e w1 ⟨rfl, rfl⟩; rw [hbit])
    | (go_at_call 31; refine (portOf_impl ⟨d, true, false, n, x, t⟩ _).mono ?_; rintro e w3 ⟨rfl, hb3⟩; replace r1 := r1.below hb3; replace r2 := r2.below hb3; replace hB := below_more hB hb3; clear hb3; rw [Sr.eta_port])
    | (refine st_port rfl rfl rfl rfl (Row.new _ _ _) rfl ?_; intro w2 r4 ho2 hs2; have n5 : w.heap.size + 1 ≠ _ := Nat.ne_of_lt r2.lt; have hB0 := hB.size; replace r2 := (r2.alloc _).onto ho2 (Nat.ne_of_lt r2.lt); replace hB := below_onto (hB.alloc hB.size _) ho2 hB.size; have c4 := r4.cell; clear ho2 hs2)
    | (go_at_call 32; refine (highBit_impl _ _ _ hd).mono ?_; rintro e w5 ⟨rfl, hb5⟩; replace r2 := r2.below hb5; replace r4 := r4.below hb5; have c4 := r4.cell; replace hB := below_more hB hb5; clear hb5)
    | (go_at_call 34; refine (shifted_impl _ _ _ _ hd hb' hn).mono ?_; rintro e w5 ⟨rfl, hb5⟩; replace r2 := r2.below hb5; replace r4 := r4.below hb5; replace hB := below_more hB hb5; clear hb5)
    | (refine st_two rfl rfl rfl rfl r4 info_shift rfl ?_; intro w6 r6 ho6 hs6; simp only [List.setIfInBounds_toArray, List.set_cons_succ, List.set_cons_zero, Nat.zero_add] at r6; replace r2 := r2.onto ho6 n5; replace hB := below_onto hB ho6 hB0; have c6 := r6.cell; clear ho6 hs6)
    | (go_at_call 35; refine (through_impl _ _ _).mono ?_; rintro e w8 ⟨rfl, hb8⟩; rw [h0]; replace r2 := r2.below hb8; replace r6 := r6.below hb8; replace hB := below_more hB hb8; clear hb8)
    | (refine st_flag rfl rfl rfl rfl r6 info_bool rfl ?_; intro w7 r7 ho7 hs7; simp only [List.setIfInBounds_toArray, List.set_cons_succ, List.set_cons_zero] at r7; replace r2 := r2.onto ho7 n5; replace hB := below_onto hB ho7 hB0; clear ho7 hs7))
  have r8 : Row w7 w3.heap.size #[.int .i64 out.d, .int .i64 out.n, .bool out.b, .bool out.l, .int .i64 out.x, .bool out.t] 57 := by subst ho; exact r7
  have h74 : w3.heap.size ≠ b4 := by omega
  have hG : Gp w b4 w3.heap.size out w7 := ⟨r8, ⟨_, rfl, hb4 ▸ r2⟩, hB⟩
  clear r1 r2 r4 r6 r7 r8 hB n5 hB0 hb4 h0 hok ho hbit hb' hn
  generalize w3.heap.size = b7 at *
  refine region_by_each (by kernel_rfl) (by kernel_rfl) (fun W => Gp w b4 b7 out W)
    (kinds [KIs (.agg #[.int .i64 out.d, .int .i64 out.n, .bool out.b, .bool out.l, .int .i64 out.x, .bool out.t]), KIs (.agg #[.int .i64 out.d, .bool out.b, .bool out.l, .int .i64 out.n, .int .i64 out.x, .bool out.t]), KIs (.int .i64 (d / 128)), KIs (.pointer (some ⟨b7, 0, none⟩)), KIs (.agg #[.int .i64 out.d, .int .i64 out.n]), KIs (.bool false), KRow b4 #[.int .i64 out.d, .bool out.b, .bool out.l, .int .i64 out.n, .int .i64 out.x, .bool out.t] 29, KIs (.int .i64 (d / 128)), KIs (.bool false)])
    (steps 6 (fun k => k = b4) (fun _ => False)) (by kernel_rfl) (kinds_steps ?hY ?hX) hG.drew ?step ?done
  case hY =>
    intro K hK
    simp only [List.mem_cons, List.not_mem_nil, or_false] at hK
    rcases hK with rfl | rfl | rfl | rfl | rfl | rfl | rfl | rfl | rfl
    all_goals first | exact bears_is _ _ | exact bears_any _ | exact bears_int _ | exact bears_row _ _ _ _ (by simp)
  case hX =>
    intro ix K hK hne
    rcases ix with _ | ix
    · obtain rfl := (Option.some.inj hK).symm; first | exact bears_is _ _ | exact bears_any _ | exact bears_int _
    rcases ix with _ | ix
    · obtain rfl := (Option.some.inj hK).symm; first | exact bears_is _ _ | exact bears_any _ | exact bears_int _
    rcases ix with _ | ix
    · obtain rfl := (Option.some.inj hK).symm; first | exact bears_is _ _ | exact bears_any _ | exact bears_int _
    rcases ix with _ | ix
    · obtain rfl := (Option.some.inj hK).symm; first | exact bears_is _ _ | exact bears_any _ | exact bears_int _
    rcases ix with _ | ix
    · obtain rfl := (Option.some.inj hK).symm; first | exact bears_is _ _ | exact bears_any _ | exact bears_int _
    rcases ix with _ | ix
    · obtain rfl := (Option.some.inj hK).symm; first | exact bears_is _ _ | exact bears_any _ | exact bears_int _
    rcases ix with _ | ix
    · exact absurd rfl hne
    rcases ix with _ | ix
    · obtain rfl := (Option.some.inj hK).symm; first | exact bears_is _ _ | exact bears_any _ | exact bears_int _
    rcases ix with _ | ix
    · obtain rfl := (Option.some.inj hK).symm; first | exact bears_is _ _ | exact bears_any _ | exact bears_int _
    simp at hK
  case step =>
    intro L ix o A W hi hI hL hd
    have hin : ix < 9 := by
      by_cases hl : ix < 9
      · exact hl
      · simp [hl] at hi
    have hsz : A.tmps.size = 47 := hI.size
    rcases ix with _ | ix
    · obtain rfl := (Option.some.inj hi).symm
      have e : A.eval (.tmp 7) = .pointer (some ⟨b7, 0, none⟩) := hI.old 7 (by kernel_rfl)
      exact at_op rfl rfl (wp_load_row _ _ rfl _ e _ _ _ _ hI.g.r7.row und_port rfl info_port ⟨_, rfl, rfl, hI.g, steps_other (by decide) (Rel.refl _ _)⟩)
    rcases ix with _ | ix
    · obtain rfl := (Option.some.inj hi).symm
      have e0 : A.eval (.tmp 41) = .agg #[.int .i64 out.d, .int .i64 out.n, .bool out.b, .bool out.l, .int .i64 out.x, .bool out.t] := hI.get hd 0 41 rfl (by kernel_rfl)
      refine at_op rfl rfl (call_op rfl Try.func30 (by kernel_rfl) (by kernel_rfl) ?_)
      simp only [List.map_cons, List.map_nil, e0]
      refine (serial_impl out W).mono ?_
      rintro e w5 ⟨rfl, hb5⟩
      exact ⟨_, rfl, _, rfl, rfl, hI.g.below hb5, steps_other (by decide) (Rel.below hb5)⟩
    rcases ix with _ | ix
    · obtain rfl := (Option.some.inj hi).symm
      have e : A.eval (.tmp 8) = .int .i64 (d / 128) := hI.old 8 (by kernel_rfl)
      exact at_op rfl rfl (move_op rfl ⟨_, rfl, e, hI.g, steps_other (by decide) (Rel.refl _ _)⟩)
    rcases ix with _ | ix
    · obtain rfl := (Option.some.inj hi).symm
      have e : A.eval (.tmp 7) = .pointer (some ⟨b7, 0, none⟩) := hI.old 7 (by kernel_rfl)
      refine at_op rfl rfl (val_op (v := .pointer (some ⟨b7, 0, none⟩)) ?_ ⟨_, rfl, rfl, hI.g, steps_other (by decide) (Rel.refl _ _)⟩)
      unfold execOp
      simp only [List.getElem_toArray, List.getElem_cons_zero, List.getElem_cons_succ, e]
      simp [go_sem]
    rcases ix with _ | ix
    · obtain rfl := (Option.some.inj hi).symm
      have e : A.eval (.tmp 44) = .pointer (some ⟨b7, 0, none⟩) := hI.get hd 3 44 rfl (by kernel_rfl)
      exact at_op rfl rfl (lw_in (cs' := #[.int .i64 out.d, .int .i64 out.n]) rfl e hI.g.r7 und_shift rfl rfl info_shift ⟨_, rfl, rfl, hI.g, steps_other (by decide) (Rel.refl _ _)⟩)
    rcases ix with _ | ix
    · obtain rfl := (Option.some.inj hi).symm
      have e0 : A.eval (.tmp 45) = .agg #[.int .i64 out.d, .int .i64 out.n] := hI.get hd 4 45 rfl (by kernel_rfl)
      refine at_op rfl rfl (call_op rfl Try.func35 (by kernel_rfl) (by kernel_rfl) ?_)
      simp only [List.map_cons, List.map_nil, e0]
      refine (hon ▸ through_impl out.d out.n W).mono ?_
      rintro e w5 ⟨rfl, hb5⟩
      exact ⟨_, rfl, _, rfl, rfl, hI.g.below hb5, steps_other (by decide) (Rel.below hb5)⟩
    rcases ix with _ | ix
    · obtain rfl := (Option.some.inj hi).symm
      have e1 : A.eval (.tmp 42) = .agg #[.int .i64 out.d, .bool out.b, .bool out.l, .int .i64 out.n, .int .i64 out.x, .bool out.t] := hI.get hd 1 42 rfl (by kernel_rfl)
      have e2 : A.eval (.tmp 4) = .pointer (some ⟨b4, 0, none⟩) := hI.old 4 (by kernel_rfl)
      obtain ⟨oc, hrs, hr⟩ := hI.g.r4
      exact at_op rfl rfl (wp_store_row _ _ _ rfl _ _ e2 e1 _ _ hr.row info_sr hrs (by simp [Value.oneCell']) ⟨_, rfl, setRow_heap W _ _ _ _ _ hr.row, hI.g.store h74 h4 _ rfl, steps_same (Rel.onto (row_set _) rfl)⟩)
    rcases ix with _ | ix
    · obtain rfl := (Option.some.inj hi).symm
      have e : A.eval (.tmp 43) = .int .i64 (d / 128) := hI.get hd 2 43 rfl (by kernel_rfl)
      exact at_op rfl rfl (assign_op rfl ⟨_, rfl, e, hI.g, steps_other (by decide) (Rel.refl _ _)⟩)
    rcases ix with _ | ix
    · obtain rfl := (Option.some.inj hi).symm
      have e : A.eval (.tmp 46) = .bool false := hI.get hd 5 46 rfl (by kernel_rfl)
      exact at_op rfl rfl (assign_op rfl ⟨_, rfl, e, hI.g, steps_other (by decide) (Rel.refl _ _)⟩)
    omega
  case done =>
    intro A W hI
    have e4 : A.tmps.getD 4 undef = .pointer (some ⟨b4, 0, none⟩) := hI.old 4 (by kernel_rfl)
    have e5 : A.tmps.getD 5 undef = .int .i64 (d / 128) := hI.slot 7 5 rfl rfl
    have e6 : A.tmps.getD 6 undef = .bool false := hI.slot 8 6 rfl rfl
    have hI6 := hI.eff 6 _ rfl rfl rfl
    have hA := frame_lit A 47 hI.size
    have hg := hI.g
    have hde : A.defers = [] := hI.defers
    rw [hde, show List.range 47 = [0, 1, 2, 3, 4, 5, 6, 7, 8, 9, 10, 11, 12, 13, 14, 15, 16, 17, 18, 19, 20, 21, 22, 23, 24, 25, 26, 27, 28, 29, 30, 31, 32, 33, 34, 35, 36, 37, 38, 39, 40, 41, 42, 43, 44, 45, 46] from rfl] at hA
    simp only [List.map_cons, List.map_nil, e4, e5, e6] at hA
    rw [hA]
    clear hA e4 e5 e6 hI hde
    obtain ⟨vv, hv⟩ := hI6
    have hrow : Row W b4 #[.int .i64 out.d, .bool out.b, .bool out.l, .int .i64 out.n, .int .i64 out.x, .bool out.t] 29 := Row.of hv
    go_wp2
    refine ret_row_tmp2 rfl rfl hrow und_sr rfl info_sr rfl rfl rfl ?_
    exact ⟨rfl, hg.bel⟩
theorem serialBeat_impl (s : Sr) (bit : Int) (w : World) :
    Calls Try.prog 15 #[s.val, .int .i64 bit] w fun e w' => e = .returned (.tuple #[(s.beat bit).1.val, .int .i64 (s.beat bit).2.1, .bool (s.beat bit).2.2]) ∧ Below w.heap.size w w' := by
  show BeatSays s bit (s.beat bit) w
  cases hok : s.ok
  · rw [show s.beat bit = (Sr.nul, 0, false) by simp [Sr.beat, hok]]
    exact beat_wrong s bit w hok
  cases hbit : inn bit 0 1
  · rw [show s.beat bit = (Sr.nul, 0, false) by simp [Sr.beat, hbit]]
    exact beat_bit s bit w hok hbit
  obtain ⟨hd, hx⟩ := Sr.ok_true hok
  have hn := Sr.ok_busy hok
  obtain ⟨d, b, l, n, x, t⟩ := s
  simp only at hd hx hn
  cases b
  · rw [show (Sr.mk d false l n x t).beat bit = (⟨d, false, l, n, x, t⟩, 1, false) by simp [Sr.beat, hok, hbit]]
    exact beat_idle d n x l t bit w hok hbit
  cases l
  · have hn' := hn rfl
    by_cases h1 : n = 1
    · subst h1
      rw [show (Sr.mk d true false 1 x t).beat bit = (⟨2 * d % 256 + bit, false, false, 1 - 1, x, t⟩, d / 128, true) by simp [Sr.beat, hok, hbit]]
      exact beat_true d 1 x t bit w hok hbit hd (inn_true hbit) hn' (by simp)
    · rw [show (Sr.mk d true false n x t).beat bit = (⟨2 * d % 256 + bit, true, false, n - 1, x, t⟩, d / 128, false) by simp [Sr.beat, hok, hbit, h1]]
      exact beat_false d n x t bit w hok hbit hd (inn_true hbit) hn' (by simp; omega)
  · rw [show (Sr.mk d true true n x t).beat bit = (⟨d, true, true, n, x, t⟩, 1, false) by simp [Sr.beat, hok, hbit]]
    exact beat_leads d n x t bit w hok hbit
end Go.Proofs.Ytdcmjajipkpbnaa.Srl
