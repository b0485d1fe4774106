/-
  The cable's port, as the program has it: an answer.
-/
import Derived.Test.YtdcmjajipkpbnaaSrlI2
namespace Go.Proofs.Ytdcmjajipkpbnaa.Srl
open Go.ChangeShapes Go.WideShapes Go.RowKit Base Num Slc Rw Reg Tmr
set_option linter.unusedVariables false

def AnswerSays (s : Sr) (bit at_ : Int) (r : Sr × Bool) (w : World) : Prop :=
    Calls Try.prog 16 #[s.val, .int .i64 bit, .int .i64 at_] w fun e w' => e = .returned (.tuple #[r.1.val, .bool r.2]) ∧ Below w.heap.size w w'
set_option maxHeartbeats 2000000 in
theorem ans_wrong (s : Sr) (bit at_ : Int) (w : World) (hok : s.ok = false) : AnswerSays s bit at_ (Sr.nul, false) w := by
  unfold AnswerSays
  rw [Sr.eta s]
  go_enter Try.func16, Try.ntmps16
  go_wp2_with (first
    | (go_at_call 17; refine (serialOk_impl s _).mono ?_; rintro e w1 ⟨rfl, hb⟩; rw [hok]; obtain ⟨r1, r2, hB⟩ := box2 hb)
    | (refine st_sr rfl rfl rfl rfl r2 rfl ?_; intro w2 r3 ho2 hs2))
  refine ret_row_tmp rfl rfl r3 und_sr rfl info_sr rfl rfl ?_
  exact ⟨rfl, below_onto hB ho2 (by omega)⟩
set_option maxHeartbeats 2000000 in
theorem ans_bit (s : Sr) (bit at_ : Int) (w : World) (hok : s.ok = true) (hbit : inn bit 0 1 = false) : AnswerSays s bit at_ (Sr.nul, false) w := by
  unfold AnswerSays
  rw [Sr.eta s]
  go_enter Try.func16, Try.ntmps16
  go_wp2_with (first
    | (go_at_call 17; refine (serialOk_impl s _).mono ?_; rintro e w1 ⟨rfl, hb⟩; rw [hok]; obtain ⟨r1, r2, hB⟩ := box2 hb)
    | (go_at_call 33; refine (bitOk_impl _ _).mono ?_; rintro e w1 ⟨rfl, rfl⟩; rw [hbit])
    | (refine st_sr rfl rfl rfl rfl r2 rfl ?_; intro w2 r3 ho2 hs2))
  refine ret_row_tmp rfl rfl r3 und_sr rfl info_sr rfl rfl ?_
  exact ⟨rfl, below_onto hB ho2 (by omega)⟩
set_option maxHeartbeats 2000000 in
theorem ans_early (s : Sr) (bit at_ : Int) (w : World) (hok : s.ok = true) (hbit : inn bit 0 1 = true) (h0 : at_ < 0) : AnswerSays s bit at_ (Sr.nul, false) w := by
  unfold AnswerSays
  rw [Sr.eta s]
  · go_enter Try.func16, Try.ntmps16
    go_wp2_with (first
      | (go_at_call 17; refine (serialOk_impl s _).mono ?_; rintro e w1 ⟨rfl, hb⟩; rw [hok]; obtain ⟨r1, r2, hB⟩ := box2 hb)
      | (go_at_call 33; refine (bitOk_impl _ _).mono ?_; rintro e w1 ⟨rfl, rfl⟩; rw [hbit])
      | (refine st_sr rfl rfl rfl rfl r2 rfl ?_; intro w2 r3 ho2 hs2))
    refine ret_row_tmp rfl rfl r3 und_sr rfl info_sr rfl rfl ?_
    exact ⟨rfl, below_onto hB ho2 (by omega)⟩
set_option maxHeartbeats 2000000 in
theorem ans_late (s : Sr) (bit at_ : Int) (w : World) (hok : s.ok = true) (hbit : inn bit 0 1 = true) (h0 : ¬ at_ < 0) (h1 : 999999968 < at_) : AnswerSays s bit at_ (Sr.nul, false) w := by
  unfold AnswerSays
  rw [Sr.eta s]
  go_enter Try.func16, Try.ntmps16
  go_wp2_with (first
    | (go_at_call 17; refine (serialOk_impl s _).mono ?_; rintro e w1 ⟨rfl, hb⟩; rw [hok]; obtain ⟨r1, r2, hB⟩ := box2 hb)
    | (go_at_call 33; refine (bitOk_impl _ _).mono ?_; rintro e w1 ⟨rfl, rfl⟩; rw [hbit])
    | (refine st_sr rfl rfl rfl rfl r2 rfl ?_; intro w2 r3 ho2 hs2))
  refine ret_row_tmp rfl rfl r3 und_sr rfl info_sr rfl rfl ?_
  exact ⟨rfl, below_onto hB ho2 (by omega)⟩
set_option maxHeartbeats 2000000 in
theorem ans_none (d n x : Int) (b l : Bool) (bit at_ : Int) (w : World) (hok : (Sr.mk d b l n x false).ok = true) (hbit : inn bit 0 1 = true) (ha' : 0 ≤ at_ ∧ at_ ≤ 999999968) : AnswerSays ⟨d, b, l, n, x, false⟩ bit at_ (⟨d, b, l, n, x, false⟩, false) w := by
  unfold AnswerSays
  rw [Sr.eta]
  go_enter Try.func16, Try.ntmps16
  go_wp2_with (first
    | (go_at_call 17; refine (serialOk_impl ⟨d, b, l, n, x, false⟩ _).mono ?_; rintro e w1 ⟨rfl, hb⟩; rw [hok]; obtain ⟨r1, r2, hB⟩ := box2 hb; clear hb; have c1 := r1.cell)
    | (go_at_call 33; refine (bitOk_impl _ _).mono ?_; rintro e w1 ⟨rfl, rfl⟩; rw [hbit])
    | (go_at_call 31; refine (portOf_impl ⟨d, b, l, n, x, false⟩ _).mono ?_; rintro e w3 ⟨rfl, hb3⟩; replace r1 := r1.below hb3; replace r2 := r2.below hb3; replace hB := below_more hB hb3; clear hb3; rw [Sr.eta_port])
    | (refine st_port rfl rfl rfl rfl (Row.new _ _ _) rfl ?_; intro w2 r4 ho2 hs2; replace r1 := (r1.alloc _).onto ho2 (Nat.ne_of_lt r1.lt); replace r2 := (r2.alloc _).onto ho2 (Nat.ne_of_lt r2.lt); replace hB := below_onto (hB.alloc hB.size _) ho2 hB.size; have c4 := r4.cell; have c1 := r1.cell; clear ho2 hs2)
    | (refine st_sr rfl rfl rfl rfl r2 rfl ?_; intro w2 r3 ho2 hs2))
  refine ret_row_tmp rfl rfl r3 und_sr rfl info_sr rfl rfl ?_
  exact ⟨rfl, below_onto hB ho2 (by omega)⟩
set_option maxHeartbeats 2000000 in
theorem ans_last (d bit at_ : Int) (w : World) (hok : (Sr.mk d true true 1 0 true).ok = true) (hbit : inn bit 0 1 = true) (hb' : 0 ≤ bit ∧ bit ≤ 1) (ha' : 0 ≤ at_ ∧ at_ ≤ 999999968) (hd : 0 ≤ d ∧ d ≤ 255) : AnswerSays ⟨d, true, true, 1, 0, true⟩ bit at_ (⟨2 * d % 256 + bit, false, false, 0, 0, false⟩, true) w := by
  unfold AnswerSays
  rw [Sr.eta]
  go_enter Try.func16, Try.ntmps16
  go_wp2_with (first
    | (go_at_call 17; refine (serialOk_impl ⟨d, true, true, 1, 0, true⟩ _).mono ?_; rintro e w1 ⟨rfl, hb⟩; rw [hok]; obtain ⟨r1, r2, hB⟩ := box2 hb; clear hb; have c1 := r1.cell)
    | (go_at_call 33; refine (bitOk_impl _ _).mono ?_; rintro e w1 ⟨rfl, rfl⟩; rw [hbit])
    | (go_at_call 31; refine (portOf_impl ⟨d, true, true, 1, 0, true⟩ _).mono ?_; rintro e w3 ⟨rfl, hb3⟩; replace r2 := r2.below hb3; replace hB := below_more hB hb3; clear hb3; rw [Sr.eta_port])
    | (refine st_port rfl rfl rfl rfl (Row.new _ _ _) rfl ?_; intro w2 r4 ho2 hs2; have n5 : w.heap.size + 1 ≠ _ := Nat.ne_of_lt r2.lt; have hB0 := hB.size; replace r2 := (r2.alloc _).onto ho2 (Nat.ne_of_lt r2.lt); replace hB := below_onto (hB.alloc hB.size _) ho2 hB.size; have c4 := r4.cell; clear ho2 hs2)
    | (go_at_call 34; refine (shifted_impl _ _ _ _ hd hb' (by omega)).mono ?_; rintro e w5 ⟨rfl, hb5⟩; replace r2 := r2.below hb5; replace r4 := r4.below hb5; replace hB := below_more hB hb5; clear hb5)
    | (refine st_two rfl rfl rfl rfl r4 info_shift rfl ?_; intro w6 r7 ho6 hs6; simp only [List.setIfInBounds_toArray, List.set_cons_succ, List.set_cons_zero, Nat.zero_add] at r7; replace r2 := r2.onto ho6 n5; replace hB := below_onto hB ho6 hB0; have c7 := r7.cell; clear ho6 hs6)
    | (go_at_call 35; refine (through_impl _ _ _).mono ?_; rintro e w8 ⟨rfl, hb8⟩; replace r2 := r2.below hb8; replace r7 := r7.below hb8; have c7 := r7.cell; replace hB := below_more hB hb8; clear hb8)
    | (refine st_sr rfl rfl rfl rfl r2 rfl ?_; intro w2 r3 ho2 hs2))
  refine ret_row_tmp rfl rfl r3 und_sr rfl info_sr rfl rfl ?_
  exact ⟨rfl, below_onto hB ho2 (by omega)⟩
set_option maxHeartbeats 2000000 in
theorem ans_more (d n bit at_ : Int) (w : World) (hok : (Sr.mk d true true n 0 true).ok = true) (hbit : inn bit 0 1 = true) (hb' : 0 ≤ bit ∧ bit ≤ 1) (ha' : 0 ≤ at_ ∧ at_ ≤ 999999968) (hd : 0 ≤ d ∧ d ≤ 255) (hn : 1 ≤ n ∧ n ≤ 8) (h0 : decide (n - 1 = 0) = false) : AnswerSays ⟨d, true, true, n, 0, true⟩ bit at_ (⟨2 * d % 256 + bit, true, true, n - 1, at_ + 32, false⟩, false) w := by
  unfold AnswerSays
  rw [Sr.eta]
  go_enter Try.func16, Try.ntmps16
  go_wp2_with (first
    | (go_at_call 17; refine (serialOk_impl ⟨d, true, true, n, 0, true⟩ _).mono ?_; rintro e w1 ⟨rfl, hb⟩; rw [hok]; obtain ⟨r1, r2, hB⟩ := box2 hb; clear hb; have c1 := r1.cell)
    | (go_at_call 33; refine (bitOk_impl _ _).mono ?_; rintro e w1 ⟨rfl, rfl⟩; rw [hbit])
    | (go_at_call 31; refine (portOf_impl ⟨d, true, true, n, 0, true⟩ _).mono ?_; rintro e w3 ⟨rfl, hb3⟩; replace r2 := r2.below hb3; replace hB := below_more hB hb3; clear hb3; rw [Sr.eta_port])
    | (refine st_port rfl rfl rfl rfl (Row.new _ _ _) rfl ?_; intro w2 r4 ho2 hs2; have n5 : w.heap.size + 1 ≠ _ := Nat.ne_of_lt r2.lt; have hB0 := hB.size; replace r2 := (r2.alloc _).onto ho2 (Nat.ne_of_lt r2.lt); replace hB := below_onto (hB.alloc hB.size _) ho2 hB.size; have c4 := r4.cell; clear ho2 hs2)
    | (go_at_call 34; refine (shifted_impl _ _ _ _ hd hb' hn).mono ?_; rintro e w5 ⟨rfl, hb5⟩; replace r2 := r2.below hb5; replace r4 := r4.below hb5; replace hB := below_more hB hb5; clear hb5)
    | (refine st_two rfl rfl rfl rfl r4 info_shift rfl ?_; intro w6 r7 ho6 hs6; simp only [List.setIfInBounds_toArray, List.set_cons_succ, List.set_cons_zero, Nat.zero_add] at r7; replace r2 := r2.onto ho6 n5; replace hB := below_onto hB ho6 hB0; have c7 := r7.cell; clear ho6 hs6)
    | (go_at_call 35; refine (through_impl _ _ _).mono ?_; rintro e w8 ⟨rfl, hb8⟩; rw [h0]; replace r2 := r2.below hb8; replace r7 := r7.below hb8; have c7 := r7.cell; replace hB := below_more hB hb8; clear hb8)
    | (refine st_flag rfl rfl rfl rfl r7 info_bool rfl ?_; intro w9 r9 ho9 hs9; simp only [List.setIfInBounds_toArray, List.set_cons_succ, List.set_cons_zero] at r9; replace r2 := r2.onto ho9 n5; replace hB := below_onto hB ho9 hB0; have c9 := r9.cell; clear ho9 hs9)
    | (refine st_int rfl rfl rfl rfl r9 info_i64 rfl ?_; intro w10 r10 ho10 hs10; simp only [List.setIfInBounds_toArray, List.set_cons_succ, List.set_cons_zero] at r10; replace r2 := r2.onto ho10 n5; replace hB := below_onto hB ho10 hB0; have c10 := r10.cell; clear ho10 hs10)
    | (go_at_call 30; refine (serial_impl ⟨2 * d % 256 + bit, true, true, n - 1, at_ + 32, false⟩ _).mono ?_; rintro e w3 ⟨rfl, hb3⟩; replace r2 := r2.below hb3; replace hB := below_more hB hb3; rw [Sr.eta])
    | (refine st_sr rfl rfl rfl rfl r2 rfl ?_; intro w2 r3 ho2 hs2))
  refine ret_row_tmp rfl rfl r3 und_sr rfl info_sr rfl rfl ?_
  exact ⟨rfl, below_onto hB ho2 (by omega)⟩
theorem serialAnswer_impl (s : Sr) (bit at_ : Int) (w : World) :
    Calls Try.prog 16 #[s.val, .int .i64 bit, .int .i64 at_] w fun e w' => e = .returned (.tuple #[(s.answer bit at_).1.val, .bool (s.answer bit at_).2]) ∧ Below w.heap.size w w' := by
  show AnswerSays s bit at_ (s.answer bit at_) w
  cases hok : s.ok
  · rw [show s.answer bit at_ = (Sr.nul, false) by simp [Sr.answer, hok]]
    exact ans_wrong s bit at_ w hok
  cases hbit : inn bit 0 1
  · rw [show s.answer bit at_ = (Sr.nul, false) by simp [Sr.answer, hbit]]
    exact ans_bit s bit at_ w hok hbit
  cases hat : inn at_ 0 999999968
  · rw [show s.answer bit at_ = (Sr.nul, false) by simp [Sr.answer, hat]]
    have hat' := inn_false hat
    by_cases h0 : at_ < 0
    · exact ans_early s bit at_ w hok hbit h0
    · exact ans_late s bit at_ w hok hbit h0 (by omega)
  have ha' := inn_true hat
  have hb' := inn_true hbit
  cases ht : s.t
  · rw [show s.answer bit at_ = (s, false) by simp [Sr.answer, hok, hbit, hat, ht]]
    obtain ⟨d, b, l, n, x, t⟩ := s
    simp only at ht
    subst ht
    exact ans_none d n x b l bit at_ w hok hbit ha'
  · obtain ⟨hl, hbu, hx⟩ := Sr.ok_wait hok ht
    have hn := Sr.ok_busy hok hbu
    have hd := (Sr.ok_true hok).1
    obtain ⟨d, b, l, n, x, t⟩ := s
    simp only at ht hl hbu hx hn hd
    subst ht hl hbu hx
    by_cases h1 : n = 1
    · subst h1
      rw [show (Sr.mk d true true 1 0 true).answer bit at_ = (⟨2 * d % 256 + bit, false, false, 0, 0, false⟩, true) by simp [Sr.answer, hok, hbit, hat]]
      exact ans_last d bit at_ w hok hbit hb' ha' hd
    · rw [show (Sr.mk d true true n 0 true).answer bit at_ = (⟨2 * d % 256 + bit, true, true, n - 1, at_ + 32, false⟩, false) by simp [Sr.answer, hok, hbit, hat, h1]]
      exact ans_more d n bit at_ w hok hbit hb' ha' hd hn (by simp; omega)
end Go.Proofs.Ytdcmjajipkpbnaa.Srl
