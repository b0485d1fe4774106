/-
  The port: what is sent, a beat, an answer, as the document's model tells them; a port taken over field by field, and two of them compared.
-/
import Derived.Test.YtdcmjajipkpbnaaSrl
namespace Go.Proofs.Ytdcmjajipkpbnaa.Srl
open Go.ChangeShapes Go.WideShapes Go.RowKit Base Num Slc Rw Reg Tmr
set_option linter.unusedVariables false

theorem top_any (d : Int) (w : World) (h : 0 ≤ d ∧ d ≤ 255) :
    Calls Try.prog 46 #[.int .i64 d] w fun e w' => e = .returned (.int .i64 (d / 128)) ∧ w' = w := by
  have q := quo_pos' (a := d) (r := 128) h.1
  go_enter Try.func46, Try.ntmps46
  go_wp2
  go_ret
  exact ⟨rfl, rfl⟩
theorem shift_any (s : Sr) (bit : Int) (w : World) (hd : 0 ≤ s.d ∧ s.d ≤ 255) (hb : 0 ≤ bit ∧ bit ≤ 1) (hn : 1 ≤ s.n ∧ s.n ≤ 8) :
    Calls Try.prog 48 #[s.val, .int .i64 bit] w fun e w' => e = .returned (s.shift bit).val ∧ Below w.heap.size w w' := by
  have q := rem_pos' (a := 2 * s.d) (r := 256) (by omega)
  rw [Sr.eta s]
  go_enter Try.func48, Try.ntmps48
  go_wp2
  refine ret_row rfl rfl (Row.new1 (w := w.alloc _) (n := w.heap.size + 1) (by simp) #[.int .i64 (2 * s.d % 256 + bit), .bool s.b, .bool s.l, .int .i64 (s.n - 1), .int .i64 s.x, .bool s.t] 29) und_sr rfl info_sr rfl ?_
  exact ⟨rfl, ((Below.refl _ _).alloc (Nat.le_refl _) _).alloc (by simp) _⟩
theorem toSerial_any (s : Sr) (w : World) :
    Calls Try.prog 27 #[s.val] w fun e w' => e = .returned s.val ∧ Below w.heap.size w w' := by
  rw [Sr.eta s]
  go_enter Try.func27, Try.ntmps27
  go_wp2
  refine ret_row rfl rfl ((Row.new1 (w := w.alloc _) (n := w.heap.size + 1) (by simp) #[.int .i64 s.d, .bool s.b, .bool s.l, .int .i64 s.n, .int .i64 s.x, .bool s.t] 29).alloc _) und_sr rfl info_sr rfl ?_
  exact ⟨rfl, (((Below.refl _ _).alloc (Nat.le_refl _) _).alloc (by simp) _).alloc (by simp; omega) _⟩
theorem eqSerial_same (s : Sr) (w : World) :
    Calls Try.prog 28 #[s.val, s.val] w fun e w' => e = .returned (.bool true) ∧ Below w.heap.size w w' := by
  rw [Sr.eta s]
  go_enter Try.func28, Try.ntmps28
  go_wp2
  go_ret
  exact ⟨rfl, ((Below.refl _ _).alloc (Nat.le_refl _) _).alloc (by simp) _⟩
theorem Sr.ok_busy {s : Sr} (h : s.ok = true) (hb : s.b = true) : 1 ≤ s.n ∧ s.n ≤ 8 := by
  simp only [Sr.ok, hb, if_true, Bool.and_eq_true] at h
  exact inn_true h.2.1
theorem Sr.ok_wait {s : Sr} (h : s.ok = true) (ht : s.t = true) : s.l = true ∧ s.b = true ∧ s.x = 0 := by
  obtain ⟨d, b, l, n, x, t⟩ := s
  simp only at ht
  subst ht
  cases b <;> cases l <;> simp [Sr.ok] at h ⊢
  exact h.2.2
set_option maxHeartbeats 4000000 in
theorem serialAnswer_spec (s : Sr) (bit at_ : Int) (w : World) :
    Calls Try.prog 24 #[s.val, .int .i64 bit, .int .i64 at_] w fun e w' => e = .returned (.tuple #[(s.answer bit at_).1.val, .bool (s.answer bit at_).2]) ∧ Below w.heap.size w w' := by
  cases hok : s.ok
  · have e : s.answer bit at_ = (Sr.nul, false) := by simp [Sr.answer, hok]
    rw [e, Sr.eta s]
    go_enter Try.func24, Try.ntmps24
    go_wp2_with (first
      | (go_at_call 26; refine (serialOk_spec s _).mono ?_; rintro e w1 ⟨rfl, hb⟩; rw [hok]; obtain ⟨r1, r2, hB⟩ := box2 hb)
      | (refine st_sr rfl rfl rfl rfl r2 rfl ?_; intro w2 r3 ho2 hs2))
    refine ret_row_tmp rfl rfl r3 und_sr rfl info_sr rfl rfl ?_
    exact ⟨rfl, below_onto hB ho2 (by omega)⟩
  cases hbit : inn bit 0 1
  · have e : s.answer bit at_ = (Sr.nul, false) := by simp [Sr.answer, hbit]
    rw [e, Sr.eta s]
    go_enter Try.func24, Try.ntmps24
    go_wp2_with (first
      | (go_at_call 26; refine (serialOk_spec s _).mono ?_; rintro e w1 ⟨rfl, hb⟩; rw [hok]; obtain ⟨r1, r2, hB⟩ := box2 hb)
      | (go_at_call 47; refine (in_any _ _ _ _).mono ?_; rintro e w1 ⟨rfl, rfl⟩; rw [hbit])
      | (refine st_sr rfl rfl rfl rfl r2 rfl ?_; intro w2 r3 ho2 hs2))
    refine ret_row_tmp rfl rfl r3 und_sr rfl info_sr rfl rfl ?_
    exact ⟨rfl, below_onto hB ho2 (by omega)⟩
  cases hat : inn at_ 0 999999968
  · have e : s.answer bit at_ = (Sr.nul, false) := by simp [Sr.answer, hat]
    rw [e, Sr.eta s]
    go_enter Try.func24, Try.ntmps24
    go_wp2_with (first
      | (go_at_call 26; refine (serialOk_spec s _).mono ?_; rintro e w1 ⟨rfl, hb⟩; rw [hok]; obtain ⟨r1, r2, hB⟩ := box2 hb)
      | (go_at_call 47; refine (in_any _ _ _ _).mono ?_; rintro e w1 ⟨rfl, rfl⟩; first | rw [hbit] | rw [hat])
      | (refine st_sr rfl rfl rfl rfl r2 rfl ?_; intro w2 r3 ho2 hs2))
    refine ret_row_tmp rfl rfl r3 und_sr rfl info_sr rfl rfl ?_
    exact ⟨rfl, below_onto hB ho2 (by omega)⟩
  have ha' := inn_true hat
  have hb' := inn_true hbit
  cases ht : s.t
  · have e : s.answer bit at_ = (s, false) := by simp [Sr.answer, hok, hbit, hat, ht]
    rw [e, Sr.eta s, ht]
    go_enter Try.func24, Try.ntmps24
    go_wp2_with (first
      | (go_at_call 26; rw [← ht]; refine (serialOk_spec s _).mono ?_; rintro e w1 ⟨rfl, hb⟩; rw [hok]; obtain ⟨r1, r2, hB⟩ := box2 hb; have c1 := r1.cell; rw [ht] at c1)
      | (go_at_call 47; refine (in_any _ _ _ _).mono ?_; rintro e w1 ⟨rfl, rfl⟩; first | rw [hbit] | rw [hat])
      | (refine st_sr rfl rfl rfl rfl r2 rfl ?_; intro w2 r3 ho2 hs2))
    refine ret_row_tmp rfl rfl r3 und_sr rfl info_sr rfl rfl ?_
    exact ⟨rfl, below_onto hB ho2 (by omega)⟩
  · obtain ⟨hl, hbu, hx⟩ := Sr.ok_wait hok ht
    have hn := Sr.ok_busy hok hbu
    have hd := (Sr.ok_true hok).1
    obtain ⟨d, b, l, n, x, t⟩ := s
    simp only at ht hl hbu hx hn hd
    subst ht hl hbu hx
    have hs2 : (Sr.mk d true true n 0 true).shift bit = ⟨2 * d % 256 + bit, true, true, n - 1, 0, true⟩ := rfl
    by_cases h1 : n = 1
    · subst h1
      have e : (Sr.mk d true true 1 0 true).answer bit at_ = (⟨2 * d % 256 + bit, false, false, 0, 0, false⟩, true) := by simp [Sr.answer, hok, hbit, hat]
      rw [e, Sr.eta]
      go_enter Try.func24, Try.ntmps24
      go_wp2_with (first
        | (go_at_call 26; refine (serialOk_spec ⟨d, true, true, 1, 0, true⟩ _).mono ?_; rintro e w1 ⟨rfl, hb⟩; rw [hok]; obtain ⟨r1, r2, hB⟩ := box2 hb; have c1 := r1.cell)
        | (go_at_call 47; refine (in_any _ _ _ _).mono ?_; rintro e w1 ⟨rfl, rfl⟩; first | rw [hbit] | rw [hat])
        | (go_at_call 48; refine (shift_any ⟨d, true, true, 1, 0, true⟩ _ _ hd hb' (by simp)).mono ?_; rw [hs2]; rintro e w3 ⟨rfl, hb3⟩; replace r2 := r2.below hb3; replace hB := hB.trans (hb3.mono hB.size); rw [Sr.eta])
        | (refine st_sr rfl rfl rfl rfl (r2.alloc _) rfl ?_; intro w2 r3 ho2 hs2))
      refine ret_row_tmp rfl rfl r3 und_sr rfl info_sr rfl rfl ?_
      exact ⟨rfl, below_onto (hB.alloc hB.size _) ho2 (by omega)⟩
    · have e : (Sr.mk d true true n 0 true).answer bit at_ = (⟨2 * d % 256 + bit, true, true, n - 1, at_ + 32, false⟩, false) := by simp [Sr.answer, hok, hbit, hat, h1]
      have h0 : ¬ n - 1 = 0 := by omega
      rw [e, Sr.eta]
      go_enter Try.func24, Try.ntmps24
      go_wp2_with (first
        | (go_at_call 26; refine (serialOk_spec ⟨d, true, true, n, 0, true⟩ _).mono ?_; rintro e w1 ⟨rfl, hb⟩; rw [hok]; obtain ⟨r1, r2, hB⟩ := box2 hb; have c1 := r1.cell)
        | (go_at_call 47; refine (in_any _ _ _ _).mono ?_; rintro e w1 ⟨rfl, rfl⟩; first | rw [hbit] | rw [hat])
        | (go_at_call 48; refine (shift_any ⟨d, true, true, n, 0, true⟩ _ _ hd hb' hn).mono ?_; rw [hs2]; rintro e w3 ⟨rfl, hb3⟩; replace r2 := r2.below hb3; replace hB := hB.trans (hb3.mono hB.size); rw [Sr.eta])
        | (refine st_sr rfl rfl rfl rfl (r2.alloc _) rfl ?_; intro w2 r3 ho2 hs2))
      refine ret_row_tmp rfl rfl r3 und_sr rfl info_sr rfl rfl ?_
      exact ⟨rfl, below_onto (hB.alloc hB.size _) ho2 (by omega)⟩
end Go.Proofs.Ytdcmjajipkpbnaa.Srl
