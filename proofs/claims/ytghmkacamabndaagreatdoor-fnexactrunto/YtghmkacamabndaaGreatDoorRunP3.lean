/-
  What FnExactRunTo leans on: part 3.
-/
import Derived.Deep.QuietTactic
import Derived.BigQuiet
import Derived.Test.YtghmkacamabndaaGreatDoorRunP1
import Derived.Test.YtghmkacamabndaaGreatDoorRunP2
set_option linter.unusedVariables false
set_option linter.unusedSimpArgs false
set_option maxRecDepth 20000
namespace Go.Proofs.YtghmkacamabndaaGreatDoor.Srl
open Go.ChangeShapes Go.WideShapes Go.RowKit Base Num Slc Rw Reg Tmr

structure Sr where
 d : Int
 b : Bool
 l : Bool
 n : Int
 x : Int
 t : Bool
def Sr.val (s : Sr) : Value := .agg #[.int .i64 s.d, .bool s.b, .bool s.l, .int .i64 s.n, .int .i64 s.x, .bool s.t]
def Sr.nul : Sr := ⟨0, false, false, 0, 0, false⟩
def Sr.ok (s : Sr) : Bool := bok s.d && clk s.x && (s.b || !s.l) && (s.l || !s.t) && (if s.b then inn s.n 1 8 && (s.x == 0 || (s.l && !s.t)) else s.n == 0 && s.x == 0)
def Sr.starts (s : Sr) (lead : Bool) (now : Int) : Bool := s.ok && inn now 0 (if lead then 999999968 else 1000000000)
def Sr.start (s : Sr) (lead : Bool) (now : Int) : Sr := if s.starts lead now then ⟨s.d, true, lead, 8, if lead then now + 32 else 0, false⟩ else Sr.nul
def Sr.send (s : Sr) (upto : Int) : Sr × Int × Int :=
 if s.ok then (if 0 < s.x ∧ s.x ≤ upto then (⟨s.d, s.b, s.l, s.n, 0, true⟩, s.x, s.d / 128) else (s, -1, 0)) else (Sr.nul, -1, 0)
def Sr.shift (s : Sr) (bit : Int) : Sr := ⟨2 * s.d % 256 + bit, s.b, s.l, s.n - 1, s.x, s.t⟩
def Sr.beat (s : Sr) (bit : Int) : Sr × Int × Bool :=
 if s.ok && inn bit 0 1 then (if s.b && !s.l then (⟨2 * s.d % 256 + bit, decide (s.n ≠ 1), s.l, s.n - 1, s.x, s.t⟩, s.d / 128, decide (s.n = 1)) else (s, 1, false)) else (Sr.nul, 0, false)
def Sr.answer (s : Sr) (bit at_ : Int) : Sr × Bool :=
 if s.ok && inn bit 0 1 && inn at_ 0 999999968 then
  (if s.t then (if s.n = 1 then (⟨2 * s.d % 256 + bit, false, false, 0, s.x, false⟩, true) else (⟨2 * s.d % 256 + bit, s.b, s.l, s.n - 1, at_ + 32, false⟩, false)) else (s, false)) else (Sr.nul, false)

theorem und_sr : Tryz.prog.underlying 28 = some (.struct #[{ name := "Data", type := 2, offset := 0, embedded := false, tag := "", pkgPath := "", byteOffset := 0 }, { name := "Busy", type := 4, offset := 1, embedded := false, tag := "", pkgPath := "", byteOffset := 8 }, { name := "Lead", type := 4, offset := 2, embedded := false, tag := "", pkgPath := "", byteOffset := 9 }, { name := "Left", type := 2, offset := 3, embedded := false, tag := "", pkgPath := "", byteOffset := 16 }, { name := "NextAt", type := 2, offset := 4, embedded := false, tag := "", pkgPath := "", byteOffset := 24 }, { name := "Wait", type := 4, offset := 5, embedded := false, tag := "", pkgPath := "", byteOffset := 32 }]) := by kernel_rfl
theorem info_sr : (Tryz.prog.info? 28).map (·.size) = some 6 := by kernel_rfl
section
variable {ops : Array Oper} {rest : List Oper} {o : Oper} {a : Act} {w : World} {Q : Exit → Act → World → Prop} {x y : Operand} {g : Nat} {d n q : Int} {b l t : Bool} {T : TypeId} {old : Array Value}
theorem st_sr (hgd : o.guard = none) (ho : o.op = .store 28 x y) (hx : a.eval x = .pointer (some ⟨g, 0, none⟩)) (hy : a.eval y = .agg #[.int .i64 d, .bool b, .bool l, .int .i64 n, .int .i64 q, .bool t]) (hr : Row w g old T) (hold : old.size = 6)
  (h : ∀ w', Row w' g #[.int .i64 d, .bool b, .bool l, .int .i64 n, .int .i64 q, .bool t] T → Onto g w w' → w'.heap.size = w.heap.size → wpList Tryz.prog ops Q rest (a.put o.dst undef) w') : wpList Tryz.prog ops Q (o :: rest) a w :=
 st_row hgd _ x y ho hx hy hr info_sr hold (by simp [Value.oneCell']) h
end
theorem quo_pos' {a r : Int} (ha : 0 ≤ a) : a.tdiv r = a / r := Int.tdiv_eq_ediv_of_nonneg ha
theorem rem_pos' {a r : Int} (ha : 0 ≤ a) : a.tmod r = a % r := Int.tmod_eq_emod_of_nonneg ha
theorem Sr.eta (s : Sr) : s.val = .agg #[.int .i64 s.d, .bool s.b, .bool s.l, .int .i64 s.n, .int .i64 s.x, .bool s.t] := rfl

theorem l5Clock_any (n : Int) (w : World) :
  Calls Tryz.prog 170 #[.int .i64 n] w fun e w' => e = .returned (.bool (clk n)) ∧ w' = w := by
 go_enter Tryz.func170, Tryz.ntmps170
 go_wp2_with (go_at_call 123; refine (in_any _ _ _ _).mono ?_; rintro e w1 ⟨rfl, rfl⟩)
 go_ret
 exact ⟨rfl, rfl⟩
set_option maxHeartbeats 4000000 in
theorem serialOk_spec (s : Sr) (w : World) :
  Calls Tryz.prog 125 #[s.val] w fun e w' => e = .returned (.bool s.ok) ∧ Below w.heap.size w w' := by
 obtain ⟨d, b, l, n, x, t⟩ := s
 show Calls Tryz.prog 125 #[.agg #[.int .i64 d, .bool b, .bool l, .int .i64 n, .int .i64 x, .bool t]] w _
 have k0 : clk 0 = true := by decide
 cases b <;> cases l <;> cases t
 all_goals
  go_enter Tryz.func125, Tryz.ntmps125
  go_wp2_with (first
   | (go_at_call 122; refine (byteOk_spec _ _).mono ?_; rintro e w1 ⟨rfl, rfl⟩; generalize hb : bok _ = r; cases r)
   | (go_at_call 170; refine (l5Clock_any _ _).mono ?_; rintro e w1 ⟨rfl, rfl⟩; generalize hk : clk _ = r; cases r)
   | (go_at_call 123; refine (in_any _ _ _ _).mono ?_; rintro e w1 ⟨rfl, rfl⟩; generalize hi : inn _ _ _ = r; cases r))
  all_goals go_ret
  all_goals exact ⟨ret_bool (by simp [Sr.ok, *]), (Below.refl _ _).alloc (Nat.le_refl _) _⟩
theorem Sr.start_no {s : Sr} {lead : Bool} {now : Int} (h : s.starts lead now = false) : s.start lead now = Sr.nul := by simp [Sr.start, h]
theorem Sr.ok_true {s : Sr} (h : s.ok = true) : (0 ≤ s.d ∧ s.d ≤ 255) ∧ (0 ≤ s.x ∧ s.x ≤ 1000000000) := by
 simp only [Sr.ok, Bool.and_eq_true] at h
 exact ⟨bok_true h.1.1.1.1, clk_true h.1.1.1.2⟩
set_option maxHeartbeats 4000000 in
theorem serialStart_spec (s : Sr) (lead : Bool) (now : Int) (w : World) :
  Calls Tryz.prog 182 #[s.val, .bool lead, .int .i64 now] w fun e w' => e = .returned (s.start lead now).val ∧ Below w.heap.size w w' := by
 rw [Sr.eta s]
 cases hst : s.starts lead now
 ·rw [Sr.start_no hst]
  cases hok : s.ok
  ·go_enter Tryz.func182, Tryz.ntmps182
   go_wp2_with (first
    | (go_at_call 125; refine (serialOk_spec s _).mono ?_; rintro e w1 ⟨rfl, hb⟩; rw [hok]; obtain ⟨r1, r2, hB⟩ := box2 hb)
    | (refine st_sr rfl rfl rfl rfl r2 rfl ?_; intro w2 r3 ho2 hs2))
   refine ret_row rfl rfl r3 und_sr rfl info_sr rfl ?_
   exact ⟨rfl, below_onto hB ho2 (by omega)⟩
  ·have hi : inn now 0 (if lead then 999999968 else 1000000000) = false := by simpa [Sr.starts, hok] using hst
   have hi' := inn_false hi
   cases lead
   ·simp at hi'
    by_cases h0 : now < 0
    ·go_enter Tryz.func182, Tryz.ntmps182
     go_wp2_with (first
      | (go_at_call 125; refine (serialOk_spec s _).mono ?_; rintro e w1 ⟨rfl, hb⟩; rw [hok]; obtain ⟨r1, r2, hB⟩ := box2 hb)
      | (refine st_sr rfl rfl rfl rfl r2 rfl ?_; intro w2 r3 ho2 hs2))
     refine ret_row rfl rfl r3 und_sr rfl info_sr rfl ?_
     exact ⟨rfl, below_onto hB ho2 (by omega)⟩
    ·have h1 : 1000000000 < now := by omega
     have h2 : 999999968 < now := by omega
     go_enter Tryz.func182, Tryz.ntmps182
     go_wp2_with (first
      | (go_at_call 125; refine (serialOk_spec s _).mono ?_; rintro e w1 ⟨rfl, hb⟩; rw [hok]; obtain ⟨r1, r2, hB⟩ := box2 hb)
      | (refine st_sr rfl rfl rfl rfl r2 rfl ?_; intro w2 r3 ho2 hs2))
     refine ret_row rfl rfl r3 und_sr rfl info_sr rfl ?_
     exact ⟨rfl, below_onto hB ho2 (by omega)⟩
   ·simp at hi'
    by_cases h0 : now < 0
    ·go_enter Tryz.func182, Tryz.ntmps182
     go_wp2_with (first
      | (go_at_call 125; refine (serialOk_spec s _).mono ?_; rintro e w1 ⟨rfl, hb⟩; rw [hok]; obtain ⟨r1, r2, hB⟩ := box2 hb)
      | (refine st_sr rfl rfl rfl rfl r2 rfl ?_; intro w2 r3 ho2 hs2))
     refine ret_row rfl rfl r3 und_sr rfl info_sr rfl ?_
     exact ⟨rfl, below_onto hB ho2 (by omega)⟩
    ·have h2 : 999999968 < now := by omega
     go_enter Tryz.func182, Tryz.ntmps182
     go_wp2_with (first
      | (go_at_call 125; refine (serialOk_spec s _).mono ?_; rintro e w1 ⟨rfl, hb⟩; rw [hok]; obtain ⟨r1, r2, hB⟩ := box2 hb)
      | (refine st_sr rfl rfl rfl rfl r2 rfl ?_; intro w2 r3 ho2 hs2))
     refine ret_row rfl rfl r3 und_sr rfl info_sr rfl ?_
     exact ⟨rfl, below_onto hB ho2 (by omega)⟩
 ·obtain ⟨hok, hi⟩ : s.ok = true ∧ inn now 0 (if lead then 999999968 else 1000000000) = true := by simpa [Sr.starts] using hst
  have hi' := inn_true hi
  have e : s.start lead now = ⟨s.d, true, lead, 8, if lead then now + 32 else 0, false⟩ := by simp [Sr.start, hst]
  rw [e]
  cases lead
  ·simp at hi'
   go_enter Tryz.func182, Tryz.ntmps182
   go_wp2_with (first
    | (go_at_call 125; refine (serialOk_spec s _).mono ?_; rintro e w1 ⟨rfl, hb⟩; rw [hok]; obtain ⟨r1, r2, hB⟩ := box2 hb; have c1 := r1.cell)
    | (refine st_sr rfl rfl rfl rfl (r2.alloc _) rfl ?_; intro w2 r3 ho2 hs2))
   all_goals refine ret_row rfl rfl r3 und_sr rfl info_sr rfl ?_
   all_goals exact ⟨rfl, below_onto (hB.alloc hB.size _) ho2 (by omega)⟩
  ·simp at hi'
   go_enter Tryz.func182, Tryz.ntmps182
   go_wp2_with (first
    | (go_at_call 125; refine (serialOk_spec s _).mono ?_; rintro e w1 ⟨rfl, hb⟩; rw [hok]; obtain ⟨r1, r2, hB⟩ := box2 hb; have c1 := r1.cell)
    | (refine st_sr rfl rfl rfl rfl (r2.alloc _) rfl ?_; intro w2 r3 ho2 hs2))
   all_goals refine ret_row rfl rfl r3 und_sr rfl info_sr rfl ?_
   all_goals exact ⟨rfl, below_onto (hB.alloc hB.size _) ho2 (by omega)⟩
end Go.Proofs.YtghmkacamabndaaGreatDoor.Srl
namespace Go.Proofs.YtghmkacamabndaaGreatDoor.Srl
open Go.ChangeShapes Go.WideShapes Go.RowKit Base Num Slc Rw Reg Tmr

theorem top_any (d : Int) (w : World) (h : 0 ≤ d ∧ d ≤ 255) :
  Calls Tryz.prog 243 #[.int .i64 d] w fun e w' => e = .returned (.int .i64 (d / 128)) ∧ w' = w := by
 have q := quo_pos' (a := d) (r := 128) h.1
 go_enter Tryz.func243, Tryz.ntmps243
 go_wp2
 go_ret
 exact ⟨rfl, rfl⟩
theorem shift_any (s : Sr) (bit : Int) (w : World) (hd : 0 ≤ s.d ∧ s.d ≤ 255) (hb : 0 ≤ bit ∧ bit ≤ 1) (hn : 1 ≤ s.n ∧ s.n ≤ 8) :
  Calls Tryz.prog 259 #[s.val, .int .i64 bit] w fun e w' => e = .returned (s.shift bit).val ∧ Below w.heap.size w w' := by
 have q := rem_pos' (a := 2 * s.d) (r := 256) (by omega)
 rw [Sr.eta s]
 go_enter Tryz.func259, Tryz.ntmps259
 go_wp2
 refine ret_row rfl rfl (Row.new1 (w := w.alloc _) (n := w.heap.size + 1) (by simp) #[.int .i64 (2 * s.d % 256 + bit), .bool s.b, .bool s.l, .int .i64 (s.n - 1), .int .i64 s.x, .bool s.t] 28) und_sr rfl info_sr rfl ?_
 exact ⟨rfl, ((Below.refl _ _).alloc (Nat.le_refl _) _).alloc (by simp) _⟩
theorem toSerial_any (s : Sr) (w : World) :
  Calls Tryz.prog 94 #[s.val] w fun e w' => e = .returned s.val ∧ Below w.heap.size w w' := by
 rw [Sr.eta s]
 go_enter Tryz.func94, Tryz.ntmps94
 go_wp2
 refine ret_row rfl rfl ((Row.new1 (w := w.alloc _) (n := w.heap.size + 1) (by simp) #[.int .i64 s.d, .bool s.b, .bool s.l, .int .i64 s.n, .int .i64 s.x, .bool s.t] 28).alloc _) und_sr rfl info_sr rfl ?_
 exact ⟨rfl, (((Below.refl _ _).alloc (Nat.le_refl _) _).alloc (by simp) _).alloc (by simp; omega) _⟩
theorem eqSerial_same (s : Sr) (w : World) :
  Calls Tryz.prog 99 #[s.val, s.val] w fun e w' => e = .returned (.bool true) ∧ Below w.heap.size w w' := by
 rw [Sr.eta s]
 go_enter Tryz.func99, Tryz.ntmps99
 go_wp2
 go_ret
 exact ⟨rfl, ((Below.refl _ _).alloc (Nat.le_refl _) _).alloc (by simp) _⟩
theorem Sr.ok_busy {s : Sr} (h : s.ok = true) (hb : s.b = true) : 1 ≤ s.n ∧ s.n ≤ 8 := by
 simp only [Sr.ok, hb, if_true, Bool.and_eq_true] at h
 exact inn_true h.2.1
theorem Sr.ok_wait {s : Sr} (h : s.ok = true) (ht : s.t = true) : s.l = true ∧ s.b = true ∧ s.x = 0 := by
 obtain ⟨d, b, l, n, x, t⟩ := s
 simp only at ht
 subst ht
 cases b <;> cases l <;> simp [Sr.ok] at h ⊢
 exact h.2.2
set_option maxHeartbeats 4000000 in
theorem serialAnswer_spec (s : Sr) (bit at_ : Int) (w : World) :
  Calls Tryz.prog 241 #[s.val, .int .i64 bit, .int .i64 at_] w fun e w' => e = .returned (.tuple #[(s.answer bit at_).1.val, .bool (s.answer bit at_).2]) ∧ Below w.heap.size w w' := by
 cases hok : s.ok
 ·have e : s.answer bit at_ = (Sr.nul, false) := by simp [Sr.answer, hok]
  rw [e, Sr.eta s]
  go_enter Tryz.func241, Tryz.ntmps241
  go_wp2_with (first
   | (go_at_call 125; refine (serialOk_spec s _).mono ?_; rintro e w1 ⟨rfl, hb⟩; rw [hok]; obtain ⟨r1, r2, hB⟩ := box2 hb)
   | (refine st_sr rfl rfl rfl rfl r2 rfl ?_; intro w2 r3 ho2 hs2))
  refine ret_row_tmp rfl rfl r3 und_sr rfl info_sr rfl rfl ?_
  exact ⟨rfl, below_onto hB ho2 (by omega)⟩
 cases hbit : inn bit 0 1
 ·have e : s.answer bit at_ = (Sr.nul, false) := by simp [Sr.answer, hbit]
  rw [e, Sr.eta s]
  go_enter Tryz.func241, Tryz.ntmps241
  go_wp2_with (first
   | (go_at_call 125; refine (serialOk_spec s _).mono ?_; rintro e w1 ⟨rfl, hb⟩; rw [hok]; obtain ⟨r1, r2, hB⟩ := box2 hb)
   | (go_at_call 123; refine (in_any _ _ _ _).mono ?_; rintro e w1 ⟨rfl, rfl⟩; rw [hbit])
   | (refine st_sr rfl rfl rfl rfl r2 rfl ?_; intro w2 r3 ho2 hs2))
  refine ret_row_tmp rfl rfl r3 und_sr rfl info_sr rfl rfl ?_
  exact ⟨rfl, below_onto hB ho2 (by omega)⟩
 cases hat : inn at_ 0 999999968
 ·have e : s.answer bit at_ = (Sr.nul, false) := by simp [Sr.answer, hat]
  rw [e, Sr.eta s]
  go_enter Tryz.func241, Tryz.ntmps241
  go_wp2_with (first
   | (go_at_call 125; refine (serialOk_spec s _).mono ?_; rintro e w1 ⟨rfl, hb⟩; rw [hok]; obtain ⟨r1, r2, hB⟩ := box2 hb)
   | (go_at_call 123; refine (in_any _ _ _ _).mono ?_; rintro e w1 ⟨rfl, rfl⟩; first | rw [hbit] | rw [hat])
   | (refine st_sr rfl rfl rfl rfl r2 rfl ?_; intro w2 r3 ho2 hs2))
  refine ret_row_tmp rfl rfl r3 und_sr rfl info_sr rfl rfl ?_
  exact ⟨rfl, below_onto hB ho2 (by omega)⟩
 have ha' := inn_true hat
 have hb' := inn_true hbit
 cases ht : s.t
 ·have e : s.answer bit at_ = (s, false) := by simp [Sr.answer, hok, hbit, hat, ht]
  rw [e, Sr.eta s, ht]
  go_enter Tryz.func241, Tryz.ntmps241
  go_wp2_with (first
   | (go_at_call 125; rw [← ht]; refine (serialOk_spec s _).mono ?_; rintro e w1 ⟨rfl, hb⟩; rw [hok]; obtain ⟨r1, r2, hB⟩ := box2 hb; have c1 := r1.cell; rw [ht] at c1)
   | (go_at_call 123; refine (in_any _ _ _ _).mono ?_; rintro e w1 ⟨rfl, rfl⟩; first | rw [hbit] | rw [hat])
   | (refine st_sr rfl rfl rfl rfl r2 rfl ?_; intro w2 r3 ho2 hs2))
  refine ret_row_tmp rfl rfl r3 und_sr rfl info_sr rfl rfl ?_
  exact ⟨rfl, below_onto hB ho2 (by omega)⟩
 ·obtain ⟨hl, hbu, hx⟩ := Sr.ok_wait hok ht
  have hn := Sr.ok_busy hok hbu
  have hd := (Sr.ok_true hok).1
  obtain ⟨d, b, l, n, x, t⟩ := s
  simp only at ht hl hbu hx hn hd
  subst ht hl hbu hx
  have hs2 : (Sr.mk d true true n 0 true).shift bit = ⟨2 * d % 256 + bit, true, true, n - 1, 0, true⟩ := rfl
  by_cases h1 : n = 1
  ·subst h1
   have e : (Sr.mk d true true 1 0 true).answer bit at_ = (⟨2 * d % 256 + bit, false, false, 0, 0, false⟩, true) := by simp [Sr.answer, hok, hbit, hat]
   rw [e, Sr.eta]
   go_enter Tryz.func241, Tryz.ntmps241
   go_wp2_with (first
    | (go_at_call 125; refine (serialOk_spec ⟨d, true, true, 1, 0, true⟩ _).mono ?_; rintro e w1 ⟨rfl, hb⟩; rw [hok]; obtain ⟨r1, r2, hB⟩ := box2 hb; have c1 := r1.cell)
    | (go_at_call 123; refine (in_any _ _ _ _).mono ?_; rintro e w1 ⟨rfl, rfl⟩; first | rw [hbit] | rw [hat])
    | (go_at_call 259; refine (shift_any ⟨d, true, true, 1, 0, true⟩ _ _ hd hb' (by simp)).mono ?_; rw [hs2]; rintro e w3 ⟨rfl, hb3⟩; replace r2 := r2.below hb3; replace hB := hB.trans (hb3.mono hB.size); rw [Sr.eta])
    | (refine st_sr rfl rfl rfl rfl (r2.alloc _) rfl ?_; intro w2 r3 ho2 hs2))
   refine ret_row_tmp rfl rfl r3 und_sr rfl info_sr rfl rfl ?_
   exact ⟨rfl, below_onto (hB.alloc hB.size _) ho2 (by omega)⟩
  ·have e : (Sr.mk d true true n 0 true).answer bit at_ = (⟨2 * d % 256 + bit, true, true, n - 1, at_ + 32, false⟩, false) := by simp [Sr.answer, hok, hbit, hat, h1]
   have h0 : ¬ n - 1 = 0 := by omega
   rw [e, Sr.eta]
   go_enter Tryz.func241, Tryz.ntmps241
   go_wp2_with (first
    | (go_at_call 125; refine (serialOk_spec ⟨d, true, true, n, 0, true⟩ _).mono ?_; rintro e w1 ⟨rfl, hb⟩; rw [hok]; obtain ⟨r1, r2, hB⟩ := box2 hb; have c1 := r1.cell)
    | (go_at_call 123; refine (in_any _ _ _ _).mono ?_; rintro e w1 ⟨rfl, rfl⟩; first | rw [hbit] | rw [hat])
    | (go_at_call 259; refine (shift_any ⟨d, true, true, n, 0, true⟩ _ _ hd hb' hn).mono ?_; rw [hs2]; rintro e w3 ⟨rfl, hb3⟩; replace r2 := r2.below hb3; replace hB := hB.trans (hb3.mono hB.size); rw [Sr.eta])
    | (refine st_sr rfl rfl rfl rfl (r2.alloc _) rfl ?_; intro w2 r3 ho2 hs2))
   refine ret_row_tmp rfl rfl r3 und_sr rfl info_sr rfl rfl ?_
   exact ⟨rfl, below_onto (hB.alloc hB.size _) ho2 (by omega)⟩
end Go.Proofs.YtghmkacamabndaaGreatDoor.Srl
namespace Go.Proofs.YtghmkacamabndaaGreatDoor.Srl
open Go.ChangeShapes Go.WideShapes Go.RowKit Base Num Slc Rw Reg Tmr

structure Gs (w : World) (b2 b4 b7 : Nat) (s o : Sr) (W : World) : Prop where
 r2 : Row W b2 #[.int .i64 s.d, .bool s.b, .bool s.l, .int .i64 s.n, .int .i64 s.x, .bool s.t] 28
 r7 : Row W b7 #[.int .i64 o.d, .bool o.b, .bool o.l, .int .i64 o.n, .int .i64 o.x, .bool o.t] 28
 r4 : ∃ cs : Array Value, cs.size = 6 ∧ Row W b4 cs 28
 bel : Below w.heap.size w W
theorem Gs.drew {w W : World} {b2 b4 b7 : Nat} {s o : Sr} (h : Gs w b2 b4 b7 s o W) : Gs w b2 b4 b7 s o W.drew := ⟨h.r2.drewN 1, h.r7.drewN 1, h.r4.imp fun _ ⟨e, r⟩ => ⟨e, r.drewN 1⟩, h.bel.drew⟩
theorem row_set {W : World} {b : Nat} (cs : Array Value) : Onto b W (W.setRow b cs) := ⟨rfl, rfl, rfl, by simp, fun k hk _ => setRow_other W _ k _ hk⟩
theorem Gs.store {w W : World} {b2 b4 b7 : Nat} {s o : Sr} (h : Gs w b2 b4 b7 s o W) (h2 : b2 ≠ b4) (h7 : b7 ≠ b4) (hw : w.heap.size ≤ b4) (cs : Array Value) (hcs : cs.size = 6) : Gs w b2 b4 b7 s o (W.setRow b4 cs) := by
 obtain ⟨old, e, r⟩ := h.r4
 exact ⟨h.r2.onto (row_set cs) h2, h.r7.onto (row_set cs) h7, ⟨cs, hcs, Row.of (setRow_heap W _ _ _ _ _ r.row)⟩, below_onto h.bel (row_set cs) hw⟩
set_option maxHeartbeats 4000000 in
theorem serialSends_spec (s : Sr) (upto : Int) (w : World) :
  Calls Tryz.prog 178 #[s.val, .int .i64 upto] w fun e w' => e = .returned (.tuple #[(s.send upto).1.val, .int .i64 (s.send upto).2.1, .int .i64 (s.send upto).2.2]) ∧ Below w.heap.size w w' := by
 cases hok : s.ok
 ·have e : s.send upto = (Sr.nul, -1, 0) := by simp [Sr.send, hok]
  rw [e, Sr.eta s]
  go_enter Tryz.func178, Tryz.ntmps178
  go_wp2_with (first
   | (go_at_call 125; refine (serialOk_spec s _).mono ?_; rintro e w1 ⟨rfl, hb⟩; rw [hok]; obtain ⟨r1, r2, hB⟩ := box2 hb; have c1 := r1.cell; have l1 := r1.lt; have l2 := r2.lt)
   | (refine st_sr rfl rfl rfl rfl r2 rfl ?_; intro w2 r3 ho2 hs2))
  refine ret_row_tmp2 rfl rfl r3 und_sr rfl info_sr rfl rfl rfl ?_
  exact ⟨rfl, below_onto hB ho2 (by omega)⟩
 obtain ⟨hd, hx⟩ := Sr.ok_true hok
 by_cases h0 : s.x = 0
 ·have e : s.send upto = (s, -1, 0) := by simp [Sr.send, hok, h0]
  obtain ⟨d, b, l, n, x, t⟩ := s
  simp only at h0
  subst h0
  rw [e, Sr.eta]
  go_enter Tryz.func178, Tryz.ntmps178
  go_wp2_with (first
   | (go_at_call 125; refine (serialOk_spec ⟨d, b, l, n, 0, t⟩ _).mono ?_; rintro e w1 ⟨rfl, hb⟩; rw [hok]; obtain ⟨r1, r2, hB⟩ := box2 hb; have c1 := r1.cell; have l1 := r1.lt; have l2 := r2.lt)
   | (refine st_sr rfl rfl rfl rfl r2 rfl ?_; intro w2 r3 ho2 hs2))
  refine ret_row_tmp2 rfl rfl r3 und_sr rfl info_sr rfl rfl rfl ?_
  exact ⟨rfl, below_onto hB ho2 (by omega)⟩
 by_cases h1 : upto < s.x
 ·have e : s.send upto = (s, -1, 0) := by simp [Sr.send, hok]; omega
  rw [e, Sr.eta s]
  go_enter Tryz.func178, Tryz.ntmps178
  go_wp2_with (first
   | (go_at_call 125; refine (serialOk_spec s _).mono ?_; rintro e w1 ⟨rfl, hb⟩; rw [hok]; obtain ⟨r1, r2, hB⟩ := box2 hb; have c1 := r1.cell; have l1 := r1.lt; have l2 := r2.lt)
   | (refine st_sr rfl rfl rfl rfl r2 rfl ?_; intro w2 r3 ho2 hs2))
  refine ret_row_tmp2 rfl rfl r3 und_sr rfl info_sr rfl rfl rfl ?_
  exact ⟨rfl, below_onto hB ho2 (by omega)⟩
 ·have e : s.send upto = (⟨s.d, s.b, s.l, s.n, 0, true⟩, s.x, s.d / 128) := by
   have : 0 < s.x ∧ s.x ≤ upto := by omega
   simp [Sr.send, hok, this]
  rw [e, Sr.eta s]
  generalize ho : (⟨s.d, s.b, s.l, s.n, 0, true⟩ : Sr) = out
  have hq0 : (s.x == 0) = false := by simpa using h0
  have hq1 : decide (upto < s.x) = false := by simpa using h1
  go_enter Tryz.func178, Tryz.ntmps178
  go_wp2_with (go_at_call 125; refine (serialOk_spec s _).mono ?_; rintro e w1 ⟨rfl, hb⟩; rw [hok]; obtain ⟨r1, r2, hB⟩ := box2 hb; have c1 := r1.cell; have l1 := r1.lt; have l2 := r2.lt)
  have r7 : Row (w1.alloc (.cells #[.int .i64 s.d, .bool s.b, .bool s.l, .int .i64 s.n, .int .i64 0, .bool true] 28)) w1.heap.size #[.int .i64 out.d, .bool out.b, .bool out.l, .int .i64 out.n, .int .i64 out.x, .bool out.t] 28 := by subst ho; exact Row.new _ _ _
  have hG : Gs w w.heap.size (w.heap.size + 1) w1.heap.size s out (w1.alloc (.cells #[.int .i64 s.d, .bool s.b, .bool s.l, .int .i64 s.n, .int .i64 0, .bool true] 28)) := ⟨r1.alloc _, r7, ⟨_, rfl, r2.alloc _⟩, hB.alloc hB.size _⟩
  clear r1 r2 hB hb c1 r7
  have hd' := hd
  refine region_by_each (by kernel_rfl) (by kernel_rfl) (fun W => Gs w w.heap.size (w.heap.size + 1) w1.heap.size s out W)
   (kinds [KIs (.agg #[.int .i64 out.d, .bool out.b, .bool out.l, .int .i64 out.n, .int .i64 out.x, .bool out.t]), KIs (.pointer (some ⟨w.heap.size, 4, none⟩)), KIs (.int .i64 s.x), KIs (.pointer (some ⟨w.heap.size, 0, none⟩)), KIs (.int .i64 s.d), KIs (.int .i64 (s.d / 128)), KRow (w.heap.size + 1) #[.int .i64 out.d, .bool out.b, .bool out.l, .int .i64 out.n, .int .i64 out.x, .bool out.t] 28, KIs (.int .i64 s.x), KIs (.int .i64 (s.d / 128))])
   (steps 6 (fun k => k = w.heap.size + 1) (fun _ => False)) (by kernel_rfl) (kinds_steps ?hY ?hX) hG.drew ?step ?done
  case hY =>
   intro K hK
   simp only [List.mem_cons, List.not_mem_nil, or_false] at hK
   rcases hK with rfl | rfl | rfl | rfl | rfl | rfl | rfl | rfl | rfl
   all_goals first | exact bears_is _ _ | exact bears_any _ | exact bears_int _ | exact bears_row _ _ _ _ (by simp)
  case hX =>
   intro ix K hK hne
   rcases ix with _ | _ | _ | _ | _ | _ | _ | _ | _ | ix
   ·cases hK; first | exact bears_is _ _ | exact bears_any _ | exact bears_int _
   ·cases hK; first | exact bears_is _ _ | exact bears_any _ | exact bears_int _
   ·cases hK; first | exact bears_is _ _ | exact bears_any _ | exact bears_int _
   ·cases hK; first | exact bears_is _ _ | exact bears_any _ | exact bears_int _
   ·cases hK; first | exact bears_is _ _ | exact bears_any _ | exact bears_int _
   ·cases hK; first | exact bears_is _ _ | exact bears_any _ | exact bears_int _
   ·exact absurd rfl hne
   ·cases hK; first | exact bears_is _ _ | exact bears_any _ | exact bears_int _
   ·cases hK; first | exact bears_is _ _ | exact bears_any _ | exact bears_int _
   simp at hK
  case step =>
   intro L ix o A W hi hI hL hd
   have hin : ix < 9 := by
    by_cases hl : ix < 9
    ·exact hl
    ·simp [hl] at hi
   have hsz : A.tmps.size = 31 := hI.size
   rcases ix with _ | _ | _ | _ | _ | _ | _ | _ | _ | ix
   ·cases hi
    have e : A.eval (.tmp 7) = .pointer (some ⟨w1.heap.size, 0, none⟩) := hI.old 7 (by kernel_rfl)
    exact at_op rfl rfl (wp_load_row _ _ rfl _ e _ _ _ _ hI.g.r7.row und_sr rfl info_sr ⟨_, rfl, rfl, hI.g, steps_other (by decide) (Rel.refl _ _)⟩)
   ·cases hi
    have e : A.eval (.tmp 2) = .pointer (some ⟨w.heap.size, 0, none⟩) := hI.old 2 (by kernel_rfl)
    refine at_op rfl rfl (val_op (v := .pointer (some ⟨w.heap.size, 4, none⟩)) ?_ ⟨_, rfl, rfl, hI.g, steps_other (by decide) (Rel.refl _ _)⟩)
    unfold execOp
    simp only [List.getElem_toArray, List.getElem_cons_zero, List.getElem_cons_succ, e]
    simp [go_sem]
   ·cases hi
    have e : A.eval (.tmp 26) = .pointer (some ⟨w.heap.size, 4, none⟩) := hI.get hd 1 26 rfl (by kernel_rfl)
    exact at_op rfl rfl (load_op rfl Tryz.underlying2 e (show W.cell? ⟨w.heap.size, 4, none⟩ = some (.int .i64 s.x) from hI.g.r2.cell 4) ⟨_, rfl, rfl, hI.g, steps_other (by decide) (Rel.refl _ _)⟩)
   ·cases hi
    have e : A.eval (.tmp 2) = .pointer (some ⟨w.heap.size, 0, none⟩) := hI.old 2 (by kernel_rfl)
    refine at_op rfl rfl (val_op (v := .pointer (some ⟨w.heap.size, 0, none⟩)) ?_ ⟨_, rfl, rfl, hI.g, steps_other (by decide) (Rel.refl _ _)⟩)
    unfold execOp
    simp only [List.getElem_toArray, List.getElem_cons_zero, List.getElem_cons_succ, e]
    simp [go_sem]
   ·cases hi
    have e : A.eval (.tmp 28) = .pointer (some ⟨w.heap.size, 0, none⟩) := hI.get hd 3 28 rfl (by kernel_rfl)
    exact at_op rfl rfl (load_op rfl Tryz.underlying2 e (show W.cell? ⟨w.heap.size, 0, none⟩ = some (.int .i64 s.d) from hI.g.r2.cell 0) ⟨_, rfl, rfl, hI.g, steps_other (by decide) (Rel.refl _ _)⟩)
   ·cases hi
    have e0 : A.eval (.tmp 29) = .int .i64 s.d := hI.get hd 4 29 rfl (by kernel_rfl)
    refine at_op rfl rfl (call_op rfl Tryz.func243 (by kernel_rfl) (by kernel_rfl) ?_)
    simp only [List.map_cons, List.map_nil, e0]
    refine (top_any s.d W hd').mono ?_
    rintro e w5 ⟨rfl, rfl⟩
    exact ⟨_, rfl, _, rfl, rfl, hI.g, steps_other (by decide) (Rel.refl _ _)⟩
   ·cases hi
    have e1 : A.eval (.tmp 25) = .agg #[.int .i64 out.d, .bool out.b, .bool out.l, .int .i64 out.n, .int .i64 out.x, .bool out.t] := hI.get hd 0 25 rfl (by kernel_rfl)
    have e2 : A.eval (.tmp 4) = .pointer (some ⟨w.heap.size + 1, 0, none⟩) := hI.old 4 (by kernel_rfl)
    obtain ⟨oc, hrs, hr⟩ := hI.g.r4
    exact at_op rfl rfl (wp_store_row _ _ _ rfl _ _ e2 e1 _ _ hr.row info_sr hrs (by simp [Value.oneCell']) ⟨_, rfl, setRow_heap W _ _ _ _ _ hr.row, hI.g.store (by omega) (by omega) (by omega) _ rfl, steps_same (Rel.onto (row_set _) rfl)⟩)
   ·cases hi
    have e : A.eval (.tmp 27) = .int .i64 s.x := hI.get hd 2 27 rfl (by kernel_rfl)
    exact at_op rfl rfl (assign_op rfl ⟨_, rfl, e, hI.g, steps_other (by decide) (Rel.refl _ _)⟩)
   ·cases hi
    have e : A.eval (.tmp 30) = .int .i64 (s.d / 128) := hI.get hd 5 30 rfl (by kernel_rfl)
    exact at_op rfl rfl (assign_op rfl ⟨_, rfl, e, hI.g, steps_other (by decide) (Rel.refl _ _)⟩)
   omega
  case done =>
   intro A W hI
   have e4 : A.tmps.getD 4 undef = .pointer (some ⟨w.heap.size + 1, 0, none⟩) := hI.old 4 (by kernel_rfl)
   have e5 : A.tmps.getD 5 undef = .int .i64 s.x := hI.slot 7 5 rfl rfl
   have e6 : A.tmps.getD 6 undef = .int .i64 (s.d / 128) := hI.slot 8 6 rfl rfl
   obtain ⟨vv, hv⟩ := hI.eff 6 _ rfl rfl rfl
   have hrow : Row W (w.heap.size + 1) #[.int .i64 out.d, .bool out.b, .bool out.l, .int .i64 out.n, .int .i64 out.x, .bool out.t] 28 := Row.of hv
   have hA := frame_lit A 31 hI.size
   have hg := hI.g
   have hde : A.defers = [] := hI.defers
   rw [hde, show List.range 31 = [0, 1, 2, 3, 4, 5, 6, 7, 8, 9, 10, 11, 12, 13, 14, 15, 16, 17, 18, 19, 20, 21, 22, 23, 24, 25, 26, 27, 28, 29, 30] from rfl] at hA
   simp only [List.map_cons, List.map_nil, e4, e5, e6] at hA
   rw [hA]
   clear hA e4 e5 e6 hI hde
   go_wp2
   refine ret_row_tmp2 rfl rfl hrow und_sr rfl info_sr rfl rfl rfl ?_
   exact ⟨rfl, hg.bel⟩
end Go.Proofs.YtghmkacamabndaaGreatDoor.Srl
namespace Go.Proofs.YtghmkacamabndaaGreatDoor.Srl
open Go.ChangeShapes Go.WideShapes Go.RowKit Base Num Slc Rw Reg Tmr

set_option maxHeartbeats 4000000 in
theorem serialBeat_spec (s : Sr) (bit : Int) (w : World) :
  Calls Tryz.prog 240 #[s.val, .int .i64 bit] w fun e w' => e = .returned (.tuple #[(s.beat bit).1.val, .int .i64 (s.beat bit).2.1, .bool (s.beat bit).2.2]) ∧ Below w.heap.size w w' := by
 cases hok : s.ok
 ·have e : s.beat bit = (Sr.nul, 0, false) := by simp [Sr.beat, hok]
  rw [e, Sr.eta s]
  go_enter Tryz.func240, Tryz.ntmps240
  go_wp2_with (first
   | (go_at_call 125; refine (serialOk_spec s _).mono ?_; rintro e w1 ⟨rfl, hb⟩; rw [hok]; obtain ⟨r1, r2, hB⟩ := box2 hb; have c1 := r1.cell; have l1 := r1.lt; have l2 := r2.lt)
   | (refine st_sr rfl rfl rfl rfl r2 rfl ?_; intro w2 r3 ho2 hs2))
  refine ret_row_tmp2 rfl rfl r3 und_sr rfl info_sr rfl rfl rfl ?_
  exact ⟨rfl, below_onto hB ho2 (by omega)⟩
 cases hbit : inn bit 0 1
 ·have e : s.beat bit = (Sr.nul, 0, false) := by simp [Sr.beat, hbit]
  rw [e, Sr.eta s]
  go_enter Tryz.func240, Tryz.ntmps240
  go_wp2_with (first
   | (go_at_call 125; refine (serialOk_spec s _).mono ?_; rintro e w1 ⟨rfl, hb⟩; rw [hok]; obtain ⟨r1, r2, hB⟩ := box2 hb; have c1 := r1.cell; have l1 := r1.lt; have l2 := r2.lt)
   | (go_at_call 123; refine (in_any _ _ _ _).mono ?_; rintro e w1 ⟨rfl, rfl⟩; rw [hbit])
   | (refine st_sr rfl rfl rfl rfl r2 rfl ?_; intro w2 r3 ho2 hs2))
  refine ret_row_tmp2 rfl rfl r3 und_sr rfl info_sr rfl rfl rfl ?_
  exact ⟨rfl, below_onto hB ho2 (by omega)⟩
 have hb' := inn_true hbit
 obtain ⟨hd, hx⟩ := Sr.ok_true hok
 have hbn := Sr.ok_busy hok
 obtain ⟨d, b, l, n, x, t⟩ := s
 simp only at hd hx hbn
 cases b
 ·have e : (Sr.mk d false l n x t).beat bit = (⟨d, false, l, n, x, t⟩, 1, false) := by simp [Sr.beat, hok, hbit]
  rw [e, Sr.eta]
  go_enter Tryz.func240, Tryz.ntmps240
  go_wp2_with (first
   | (go_at_call 125; refine (serialOk_spec ⟨d, false, l, n, x, t⟩ _).mono ?_; rintro e w1 ⟨rfl, hb⟩; rw [hok]; obtain ⟨r1, r2, hB⟩ := box2 hb; have c1 := r1.cell; have l1 := r1.lt; have l2 := r2.lt)
   | (go_at_call 123; refine (in_any _ _ _ _).mono ?_; rintro e w1 ⟨rfl, rfl⟩; rw [hbit])
   | (refine st_sr rfl rfl rfl rfl r2 rfl ?_; intro w2 r3 ho2 hs2))
  refine ret_row_tmp2 rfl rfl r3 und_sr rfl info_sr rfl rfl rfl ?_
  exact ⟨rfl, below_onto hB ho2 (by omega)⟩
 by_cases hlt : l = true
 ·subst hlt
  have e : (Sr.mk d true true n x t).beat bit = (⟨d, true, true, n, x, t⟩, 1, false) := by simp [Sr.beat, hok, hbit]
  rw [e, Sr.eta]
  go_enter Tryz.func240, Tryz.ntmps240
  go_wp2_with (first
   | (go_at_call 125; refine (serialOk_spec ⟨d, true, true, n, x, t⟩ _).mono ?_; rintro e w1 ⟨rfl, hb⟩; rw [hok]; obtain ⟨r1, r2, hB⟩ := box2 hb; have c1 := r1.cell; have l1 := r1.lt; have l2 := r2.lt)
   | (go_at_call 123; refine (in_any _ _ _ _).mono ?_; rintro e w1 ⟨rfl, rfl⟩; rw [hbit])
   | (refine st_sr rfl rfl rfl rfl r2 rfl ?_; intro w2 r3 ho2 hs2))
  refine ret_row_tmp2 rfl rfl r3 und_sr rfl info_sr rfl rfl rfl ?_
  exact ⟨rfl, below_onto hB ho2 (by omega)⟩
 obtain rfl : l = false := by simpa using hlt
 have hn := hbn rfl
 clear hbn
 have hsh : (Sr.mk d true false n x t).shift bit = ⟨2 * d % 256 + bit, true, false, n - 1, x, t⟩ := rfl
 by_cases h1 : n = 1
 ·subst h1
  have e : (Sr.mk d true false 1 x t).beat bit = (⟨2 * d % 256 + bit, false, false, 0, x, t⟩, d / 128, true) := by simp [Sr.beat, hok, hbit]
  rw [e, Sr.eta]
  generalize ho : (⟨2 * d % 256 + bit, false, false, 0, x, t⟩ : Sr) = out
  have HO : Hid ((⟨2 * d % 256 + bit, false, false, 0, x, t⟩ : Sr) = out) := ho
  clear ho
  go_enter Tryz.func240, Tryz.ntmps240
  go_wp2_with (first
   | (go_at_call 125; refine (serialOk_spec ⟨d, true, false, 1, x, t⟩ _).mono ?_; rintro e w1 ⟨rfl, hb⟩; rw [hok]; obtain ⟨r1, r2, hB⟩ := box2 hb; have c1 := r1.cell; have l1 := r1.lt; have l2 := r2.lt)
   | (go_at_call 123; refine (in_any _ _ _ _).mono ?_; rintro e w1 ⟨rfl, rfl⟩; rw [hbit])
   | (go_at_call 259; refine (shift_any ⟨d, true, false, 1, x, t⟩ _ _ hd hb' (by simp)).mono ?_; rw [hsh]; rintro e w3 ⟨rfl, hb3⟩; replace r1 := r1.below hb3; replace r2 := r2.below hb3; replace hB := hB.trans (hb3.mono hB.size); have l3 := r1.lt; have l4 := r2.lt; rw [Sr.eta]))
  have ho := HO.out
  obtain ⟨s, hs⟩ : ∃ s : Sr, (⟨d, true, false, 1, x, t⟩ : Sr) = s := ⟨_, rfl⟩
  have r7 : Row (w3.alloc (.cells #[.int .i64 (2 * d % 256 + bit), .bool false, .bool false, .int .i64 (0), .int .i64 x, .bool t] 28)) w3.heap.size #[.int .i64 out.d, .bool out.b, .bool out.l, .int .i64 out.n, .int .i64 out.x, .bool out.t] 28 := by subst ho; exact Row.new _ _ _
  have r1' : Row w3 w.heap.size #[.int .i64 s.d, .bool s.b, .bool s.l, .int .i64 s.n, .int .i64 s.x, .bool s.t] 28 := by subst hs; exact r1
  have hG : Gs w w.heap.size (w.heap.size + 1) w3.heap.size s out (w3.alloc (.cells #[.int .i64 (2 * d % 256 + bit), .bool false, .bool false, .int .i64 (0), .int .i64 x, .bool t] 28)) := ⟨r1'.alloc _, r7, ⟨_, rfl, r2.alloc _⟩, hB.alloc hB.size _⟩
  have hsd : s.d = d := by subst hs; rfl
  have hon : out.n = 0 := by subst ho; rfl
  clear r1 r1' r2 hB hb c1 r7
  refine region_by_each (by kernel_rfl) (by kernel_rfl) (fun W => Gs w w.heap.size (w.heap.size + 1) w3.heap.size s out W)
   (kinds [KIs (.agg #[.int .i64 out.d, .bool out.b, .bool out.l, .int .i64 out.n, .int .i64 out.x, .bool out.t]), KIs (.pointer (some ⟨w.heap.size, 0, none⟩)), KIs (.int .i64 s.d), KIs (.int .i64 (s.d / 128)), KIs (.pointer (some ⟨w3.heap.size, 3, none⟩)), KIs (.int .i64 out.n), KIs (.bool true), KRow (w.heap.size + 1) #[.int .i64 out.d, .bool out.b, .bool out.l, .int .i64 out.n, .int .i64 out.x, .bool out.t] 28, KIs (.int .i64 (s.d / 128)), KIs (.bool true)])
   (steps 7 (fun k => k = w.heap.size + 1) (fun _ => False)) (by kernel_rfl) (kinds_steps ?hY ?hX) hG.drew ?step ?done
  case hY =>
   intro K hK
   simp only [List.mem_cons, List.not_mem_nil, or_false] at hK
   rcases hK with rfl | rfl | rfl | rfl | rfl | rfl | rfl | rfl | rfl | rfl
   all_goals first | exact bears_is _ _ | exact bears_any _ | exact bears_int _ | exact bears_row _ _ _ _ (by simp)
  case hX =>
   intro ix K hK hne
   rcases ix with _ | _ | _ | _ | _ | _ | _ | _ | _ | _ | ix
   ·cases hK; first | exact bears_is _ _ | exact bears_any _ | exact bears_int _
   ·cases hK; first | exact bears_is _ _ | exact bears_any _ | exact bears_int _
   ·cases hK; first | exact bears_is _ _ | exact bears_any _ | exact bears_int _
   ·cases hK; first | exact bears_is _ _ | exact bears_any _ | exact bears_int _
   ·cases hK; first | exact bears_is _ _ | exact bears_any _ | exact bears_int _
   ·cases hK; first | exact bears_is _ _ | exact bears_any _ | exact bears_int _
   ·cases hK; first | exact bears_is _ _ | exact bears_any _ | exact bears_int _
   ·exact absurd rfl hne
   ·cases hK; first | exact bears_is _ _ | exact bears_any _ | exact bears_int _
   ·cases hK; first | exact bears_is _ _ | exact bears_any _ | exact bears_int _
   simp at hK
  case step =>
   intro L ix o A W hi hI hL hd
   have hin : ix < 10 := by
    by_cases hl : ix < 10
    ·exact hl
    ·simp [hl] at hi
   have hsz : A.tmps.size = 39 := hI.size
   rcases ix with _ | _ | _ | _ | _ | _ | _ | _ | _ | _ | ix
   ·cases hi
    have e : A.eval (.tmp 7) = .pointer (some ⟨w3.heap.size, 0, none⟩) := hI.old 7 (by kernel_rfl)
    exact at_op rfl rfl (wp_load_row _ _ rfl _ e _ _ _ _ hI.g.r7.row und_sr rfl info_sr ⟨_, rfl, rfl, hI.g, steps_other (by decide) (Rel.refl _ _)⟩)
   ·cases hi
    have e : A.eval (.tmp 2) = .pointer (some ⟨w.heap.size, 0, none⟩) := hI.old 2 (by kernel_rfl)
    refine at_op rfl rfl (val_op (v := .pointer (some ⟨w.heap.size, 0, none⟩)) ?_ ⟨_, rfl, rfl, hI.g, steps_other (by decide) (Rel.refl _ _)⟩)
    unfold execOp
    simp only [List.getElem_toArray, List.getElem_cons_zero, List.getElem_cons_succ, e]
    simp [go_sem]
   ·cases hi
    have e : A.eval (.tmp 33) = .pointer (some ⟨w.heap.size, 0, none⟩) := hI.get hd 1 33 rfl (by kernel_rfl)
    exact at_op rfl rfl (load_op rfl Tryz.underlying2 e (show W.cell? ⟨w.heap.size, 0, none⟩ = some (.int .i64 s.d) from hI.g.r2.cell 0) ⟨_, rfl, rfl, hI.g, steps_other (by decide) (Rel.refl _ _)⟩)
   ·cases hi
    have e0 : A.eval (.tmp 34) = .int .i64 s.d := hI.get hd 2 34 rfl (by kernel_rfl)
    refine at_op rfl rfl (call_op rfl Tryz.func243 (by kernel_rfl) (by kernel_rfl) ?_)
    simp only [List.map_cons, List.map_nil, e0]
    refine (top_any s.d W (by omega)).mono ?_
    rintro e w5 ⟨rfl, rfl⟩
    exact ⟨_, rfl, _, rfl, rfl, hI.g, steps_other (by decide) (Rel.refl _ _)⟩
   ·cases hi
    have e : A.eval (.tmp 7) = .pointer (some ⟨w3.heap.size, 0, none⟩) := hI.old 7 (by kernel_rfl)
    refine at_op rfl rfl (val_op (v := .pointer (some ⟨w3.heap.size, 3, none⟩)) ?_ ⟨_, rfl, rfl, hI.g, steps_other (by decide) (Rel.refl _ _)⟩)
    unfold execOp
    simp only [List.getElem_toArray, List.getElem_cons_zero, List.getElem_cons_succ, e]
    simp [go_sem]
   ·cases hi
    have e : A.eval (.tmp 36) = .pointer (some ⟨w3.heap.size, 3, none⟩) := hI.get hd 4 36 rfl (by kernel_rfl)
    exact at_op rfl rfl (load_op rfl Tryz.underlying2 e (show W.cell? ⟨w3.heap.size, 3, none⟩ = some (.int .i64 out.n) from hI.g.r7.cell 3) ⟨_, rfl, rfl, hI.g, steps_other (by decide) (Rel.refl _ _)⟩)
   ·cases hi
    have e1 : A.eval (.tmp 37) = .int .i64 out.n := hI.get hd 5 37 rfl (by kernel_rfl)
    exact at_op rfl rfl (bin_op (vy := .int .i64 0) rfl e1 rfl (fun w => by rw [hon]; simp [go_sem]) ⟨_, rfl, rfl, hI.g, steps_other (by decide) (Rel.refl _ _)⟩)
   ·cases hi
    have e1 : A.eval (.tmp 32) = .agg #[.int .i64 out.d, .bool out.b, .bool out.l, .int .i64 out.n, .int .i64 out.x, .bool out.t] := hI.get hd 0 32 rfl (by kernel_rfl)
    have e2 : A.eval (.tmp 4) = .pointer (some ⟨w.heap.size + 1, 0, none⟩) := hI.old 4 (by kernel_rfl)
    obtain ⟨oc, hrs, hr⟩ := hI.g.r4
    exact at_op rfl rfl (wp_store_row _ _ _ rfl _ _ e2 e1 _ _ hr.row info_sr hrs (by simp [Value.oneCell']) ⟨_, rfl, setRow_heap W _ _ _ _ _ hr.row, hI.g.store (by omega) (by omega) (by omega) _ rfl, steps_same (Rel.onto (row_set _) rfl)⟩)
   ·cases hi
    have e : A.eval (.tmp 35) = .int .i64 (s.d / 128) := hI.get hd 3 35 rfl (by kernel_rfl)
    exact at_op rfl rfl (assign_op rfl ⟨_, rfl, e, hI.g, steps_other (by decide) (Rel.refl _ _)⟩)
   ·cases hi
    have e : A.eval (.tmp 38) = .bool true := hI.get hd 6 38 rfl (by kernel_rfl)
    exact at_op rfl rfl (assign_op rfl ⟨_, rfl, e, hI.g, steps_other (by decide) (Rel.refl _ _)⟩)
   omega
  case done =>
   intro A W hI
   have e4 : A.tmps.getD 4 undef = .pointer (some ⟨w.heap.size + 1, 0, none⟩) := hI.old 4 (by kernel_rfl)
   have e5 : A.tmps.getD 5 undef = .int .i64 (s.d / 128) := hI.slot 8 5 rfl rfl
   have e6 : A.tmps.getD 6 undef = .bool true := hI.slot 9 6 rfl rfl
   obtain ⟨vv, hv⟩ := hI.eff 7 _ rfl rfl rfl
   have hrow : Row W (w.heap.size + 1) #[.int .i64 out.d, .bool out.b, .bool out.l, .int .i64 out.n, .int .i64 out.x, .bool out.t] 28 := Row.of hv
   have hA := frame_lit A 39 hI.size
   have hg := hI.g
   have hde : A.defers = [] := hI.defers
   rw [hde, show List.range 39 = [0, 1, 2, 3, 4, 5, 6, 7, 8, 9, 10, 11, 12, 13, 14, 15, 16, 17, 18, 19, 20, 21, 22, 23, 24, 25, 26, 27, 28, 29, 30, 31, 32, 33, 34, 35, 36, 37, 38] from rfl] at hA
   simp only [List.map_cons, List.map_nil, e4, e5, e6] at hA
   rw [hA]
   clear hA e4 e5 e6 hI hde
   go_wp2
   refine ret_row_tmp2 rfl rfl hrow und_sr rfl info_sr rfl rfl rfl ?_
   exact ⟨by rw [hsd]; rfl, hg.bel⟩
 ·have e : (Sr.mk d true false n x t).beat bit = (⟨2 * d % 256 + bit, true, false, n - 1, x, t⟩, d / 128, false) := by simp [Sr.beat, hok, hbit, h1]
  rw [e, Sr.eta]
  have h0 : ¬ n - 1 = 0 := by omega
  generalize ho : (⟨2 * d % 256 + bit, true, false, n - 1, x, t⟩ : Sr) = out
  have HO : Hid ((⟨2 * d % 256 + bit, true, false, n - 1, x, t⟩ : Sr) = out) := ho
  clear ho
  go_enter Tryz.func240, Tryz.ntmps240
  go_wp2_with (first
   | (go_at_call 125; refine (serialOk_spec ⟨d, true, false, n, x, t⟩ _).mono ?_; rintro e w1 ⟨rfl, hb⟩; rw [hok]; obtain ⟨r1, r2, hB⟩ := box2 hb; have c1 := r1.cell; have l1 := r1.lt; have l2 := r2.lt)
   | (go_at_call 123; refine (in_any _ _ _ _).mono ?_; rintro e w1 ⟨rfl, rfl⟩; rw [hbit])
   | (go_at_call 259; refine (shift_any ⟨d, true, false, n, x, t⟩ _ _ hd hb' (by simp; omega)).mono ?_; rw [hsh]; rintro e w3 ⟨rfl, hb3⟩; replace r1 := r1.below hb3; replace r2 := r2.below hb3; replace hB := hB.trans (hb3.mono hB.size); have l3 := r1.lt; have l4 := r2.lt; rw [Sr.eta]))
  have ho := HO.out
  obtain ⟨s, hs⟩ : ∃ s : Sr, (⟨d, true, false, n, x, t⟩ : Sr) = s := ⟨_, rfl⟩
  have r7 : Row (w3.alloc (.cells #[.int .i64 (2 * d % 256 + bit), .bool true, .bool false, .int .i64 (n - 1), .int .i64 x, .bool t] 28)) w3.heap.size #[.int .i64 out.d, .bool out.b, .bool out.l, .int .i64 out.n, .int .i64 out.x, .bool out.t] 28 := by subst ho; exact Row.new _ _ _
  have r1' : Row w3 w.heap.size #[.int .i64 s.d, .bool s.b, .bool s.l, .int .i64 s.n, .int .i64 s.x, .bool s.t] 28 := by subst hs; exact r1
  have hG : Gs w w.heap.size (w.heap.size + 1) w3.heap.size s out (w3.alloc (.cells #[.int .i64 (2 * d % 256 + bit), .bool true, .bool false, .int .i64 (n - 1), .int .i64 x, .bool t] 28)) := ⟨r1'.alloc _, r7, ⟨_, rfl, r2.alloc _⟩, hB.alloc hB.size _⟩
  have hsd : s.d = d := by subst hs; rfl
  have hon : out.n = n - 1 := by subst ho; rfl
  clear r1 r1' r2 hB hb c1 r7
  refine region_by_each (by kernel_rfl) (by kernel_rfl) (fun W => Gs w w.heap.size (w.heap.size + 1) w3.heap.size s out W)
   (kinds [KIs (.agg #[.int .i64 out.d, .bool out.b, .bool out.l, .int .i64 out.n, .int .i64 out.x, .bool out.t]), KIs (.pointer (some ⟨w.heap.size, 0, none⟩)), KIs (.int .i64 s.d), KIs (.int .i64 (s.d / 128)), KIs (.pointer (some ⟨w3.heap.size, 3, none⟩)), KIs (.int .i64 out.n), KIs (.bool false), KRow (w.heap.size + 1) #[.int .i64 out.d, .bool out.b, .bool out.l, .int .i64 out.n, .int .i64 out.x, .bool out.t] 28, KIs (.int .i64 (s.d / 128)), KIs (.bool false)])
   (steps 7 (fun k => k = w.heap.size + 1) (fun _ => False)) (by kernel_rfl) (kinds_steps ?hY ?hX) hG.drew ?step ?done
  case hY =>
   intro K hK
   simp only [List.mem_cons, List.not_mem_nil, or_false] at hK
   rcases hK with rfl | rfl | rfl | rfl | rfl | rfl | rfl | rfl | rfl | rfl
   all_goals first | exact bears_is _ _ | exact bears_any _ | exact bears_int _ | exact bears_row _ _ _ _ (by simp)
  case hX =>
   intro ix K hK hne
   rcases ix with _ | _ | _ | _ | _ | _ | _ | _ | _ | _ | ix
   ·cases hK; first | exact bears_is _ _ | exact bears_any _ | exact bears_int _
   ·cases hK; first | exact bears_is _ _ | exact bears_any _ | exact bears_int _
   ·cases hK; first | exact bears_is _ _ | exact bears_any _ | exact bears_int _
   ·cases hK; first | exact bears_is _ _ | exact bears_any _ | exact bears_int _
   ·cases hK; first | exact bears_is _ _ | exact bears_any _ | exact bears_int _
   ·cases hK; first | exact bears_is _ _ | exact bears_any _ | exact bears_int _
   ·cases hK; first | exact bears_is _ _ | exact bears_any _ | exact bears_int _
   ·exact absurd rfl hne
   ·cases hK; first | exact bears_is _ _ | exact bears_any _ | exact bears_int _
   ·cases hK; first | exact bears_is _ _ | exact bears_any _ | exact bears_int _
   simp at hK
  case step =>
   intro L ix o A W hi hI hL hd
   have hin : ix < 10 := by
    by_cases hl : ix < 10
    ·exact hl
    ·simp [hl] at hi
   have hsz : A.tmps.size = 39 := hI.size
   rcases ix with _ | _ | _ | _ | _ | _ | _ | _ | _ | _ | ix
   ·cases hi
    have e : A.eval (.tmp 7) = .pointer (some ⟨w3.heap.size, 0, none⟩) := hI.old 7 (by kernel_rfl)
    exact at_op rfl rfl (wp_load_row _ _ rfl _ e _ _ _ _ hI.g.r7.row und_sr rfl info_sr ⟨_, rfl, rfl, hI.g, steps_other (by decide) (Rel.refl _ _)⟩)
   ·cases hi
    have e : A.eval (.tmp 2) = .pointer (some ⟨w.heap.size, 0, none⟩) := hI.old 2 (by kernel_rfl)
    refine at_op rfl rfl (val_op (v := .pointer (some ⟨w.heap.size, 0, none⟩)) ?_ ⟨_, rfl, rfl, hI.g, steps_other (by decide) (Rel.refl _ _)⟩)
    unfold execOp
    simp only [List.getElem_toArray, List.getElem_cons_zero, List.getElem_cons_succ, e]
    simp [go_sem]
   ·cases hi
    have e : A.eval (.tmp 33) = .pointer (some ⟨w.heap.size, 0, none⟩) := hI.get hd 1 33 rfl (by kernel_rfl)
    exact at_op rfl rfl (load_op rfl Tryz.underlying2 e (show W.cell? ⟨w.heap.size, 0, none⟩ = some (.int .i64 s.d) from hI.g.r2.cell 0) ⟨_, rfl, rfl, hI.g, steps_other (by decide) (Rel.refl _ _)⟩)
   ·cases hi
    have e0 : A.eval (.tmp 34) = .int .i64 s.d := hI.get hd 2 34 rfl (by kernel_rfl)
    refine at_op rfl rfl (call_op rfl Tryz.func243 (by kernel_rfl) (by kernel_rfl) ?_)
    simp only [List.map_cons, List.map_nil, e0]
    refine (top_any s.d W (by omega)).mono ?_
    rintro e w5 ⟨rfl, rfl⟩
    exact ⟨_, rfl, _, rfl, rfl, hI.g, steps_other (by decide) (Rel.refl _ _)⟩
   ·cases hi
    have e : A.eval (.tmp 7) = .pointer (some ⟨w3.heap.size, 0, none⟩) := hI.old 7 (by kernel_rfl)
    refine at_op rfl rfl (val_op (v := .pointer (some ⟨w3.heap.size, 3, none⟩)) ?_ ⟨_, rfl, rfl, hI.g, steps_other (by decide) (Rel.refl _ _)⟩)
    unfold execOp
    simp only [List.getElem_toArray, List.getElem_cons_zero, List.getElem_cons_succ, e]
    simp [go_sem]
   ·cases hi
    have e : A.eval (.tmp 36) = .pointer (some ⟨w3.heap.size, 3, none⟩) := hI.get hd 4 36 rfl (by kernel_rfl)
    exact at_op rfl rfl (load_op rfl Tryz.underlying2 e (show W.cell? ⟨w3.heap.size, 3, none⟩ = some (.int .i64 out.n) from hI.g.r7.cell 3) ⟨_, rfl, rfl, hI.g, steps_other (by decide) (Rel.refl _ _)⟩)
   ·cases hi
    have e1 : A.eval (.tmp 37) = .int .i64 out.n := hI.get hd 5 37 rfl (by kernel_rfl)
    exact at_op rfl rfl (bin_op (vy := .int .i64 0) rfl e1 rfl (fun w => by simp [go_sem]; omega) ⟨_, rfl, rfl, hI.g, steps_other (by decide) (Rel.refl _ _)⟩)
   ·cases hi
    have e1 : A.eval (.tmp 32) = .agg #[.int .i64 out.d, .bool out.b, .bool out.l, .int .i64 out.n, .int .i64 out.x, .bool out.t] := hI.get hd 0 32 rfl (by kernel_rfl)
    have e2 : A.eval (.tmp 4) = .pointer (some ⟨w.heap.size + 1, 0, none⟩) := hI.old 4 (by kernel_rfl)
    obtain ⟨oc, hrs, hr⟩ := hI.g.r4
    exact at_op rfl rfl (wp_store_row _ _ _ rfl _ _ e2 e1 _ _ hr.row info_sr hrs (by simp [Value.oneCell']) ⟨_, rfl, setRow_heap W _ _ _ _ _ hr.row, hI.g.store (by omega) (by omega) (by omega) _ rfl, steps_same (Rel.onto (row_set _) rfl)⟩)
   ·cases hi
    have e : A.eval (.tmp 35) = .int .i64 (s.d / 128) := hI.get hd 3 35 rfl (by kernel_rfl)
    exact at_op rfl rfl (assign_op rfl ⟨_, rfl, e, hI.g, steps_other (by decide) (Rel.refl _ _)⟩)
   ·cases hi
    have e : A.eval (.tmp 38) = .bool false := hI.get hd 6 38 rfl (by kernel_rfl)
    exact at_op rfl rfl (assign_op rfl ⟨_, rfl, e, hI.g, steps_other (by decide) (Rel.refl _ _)⟩)
   omega
  case done =>
   intro A W hI
   have e4 : A.tmps.getD 4 undef = .pointer (some ⟨w.heap.size + 1, 0, none⟩) := hI.old 4 (by kernel_rfl)
   have e5 : A.tmps.getD 5 undef = .int .i64 (s.d / 128) := hI.slot 8 5 rfl rfl
   have e6 : A.tmps.getD 6 undef = .bool false := hI.slot 9 6 rfl rfl
   obtain ⟨vv, hv⟩ := hI.eff 7 _ rfl rfl rfl
   have hrow : Row W (w.heap.size + 1) #[.int .i64 out.d, .bool out.b, .bool out.l, .int .i64 out.n, .int .i64 out.x, .bool out.t] 28 := Row.of hv
   have hA := frame_lit A 39 hI.size
   have hg := hI.g
   have hde : A.defers = [] := hI.defers
   rw [hde, show List.range 39 = [0, 1, 2, 3, 4, 5, 6, 7, 8, 9, 10, 11, 12, 13, 14, 15, 16, 17, 18, 19, 20, 21, 22, 23, 24, 25, 26, 27, 28, 29, 30, 31, 32, 33, 34, 35, 36, 37, 38] from rfl] at hA
   simp only [List.map_cons, List.map_nil, e4, e5, e6] at hA
   rw [hA]
   clear hA e4 e5 e6 hI hde
   go_wp2
   refine ret_row_tmp2 rfl rfl hrow und_sr rfl info_sr rfl rfl rfl ?_
   exact ⟨by rw [hsd]; rfl, hg.bel⟩
end Go.Proofs.YtghmkacamabndaaGreatDoor.Srl
namespace Go.Proofs.YtghmkacamabndaaGreatDoor.Srl
open Go.ChangeShapes Go.WideShapes Go.RowKit Base Num Slc Rw Reg Tmr

def Sr.port (s : Sr) : Value := .agg #[.int .i64 s.d, .int .i64 s.n, .bool s.b, .bool s.l, .int .i64 s.x, .bool s.t]
theorem Sr.eta_port (s : Sr) : s.port = .agg #[.int .i64 s.d, .int .i64 s.n, .bool s.b, .bool s.l, .int .i64 s.x, .bool s.t] := rfl
theorem und_port : Tryz.prog.underlying 153 = some (.struct #[{ name := "shift", type := 151, offset := 0, embedded := true, tag := "", pkgPath := "loop.example/g00741/impl", byteOffset := 0 }, { name := "busy", type := 4, offset := 2, embedded := false, tag := "", pkgPath := "loop.example/g00741/impl", byteOffset := 16 }, { name := "lead", type := 4, offset := 3, embedded := false, tag := "", pkgPath := "loop.example/g00741/impl", byteOffset := 17 }, { name := "nextAt", type := 2, offset := 4, embedded := false, tag := "", pkgPath := "loop.example/g00741/impl", byteOffset := 24 }, { name := "wait", type := 4, offset := 5, embedded := false, tag := "", pkgPath := "loop.example/g00741/impl", byteOffset := 32 }]) := by kernel_rfl
theorem info_port : (Tryz.prog.info? 153).map (·.size) = some 6 := by kernel_rfl
theorem info_shift : (Tryz.prog.info? 151).map (·.size) = some 2 := by kernel_rfl
section
variable {ops : Array Oper} {rest : List Oper} {o : Oper} {a : Act} {w : World} {Q : Exit → Act → World → Prop} {x y : Operand} {g : Nat} {d n q : Int} {b l t : Bool} {T : TypeId} {old : Array Value}
theorem st_port (hgd : o.guard = none) (ho : o.op = .store 153 x y) (hx : a.eval x = .pointer (some ⟨g, 0, none⟩)) (hy : a.eval y = .agg #[.int .i64 d, .int .i64 n, .bool b, .bool l, .int .i64 q, .bool t]) (hr : Row w g old T) (hold : old.size = 6)
  (h : ∀ w', Row w' g #[.int .i64 d, .int .i64 n, .bool b, .bool l, .int .i64 q, .bool t] T → Onto g w w' → w'.heap.size = w.heap.size → wpList Tryz.prog ops Q rest (a.put o.dst undef) w') : wpList Tryz.prog ops Q (o :: rest) a w :=
 st_row hgd _ x y ho hx hy hr info_port hold (by simp [Value.oneCell']) h
theorem st_shift (hgd : o.guard = none) (ho : o.op = .store 151 x y) (hx : a.eval x = .pointer (some ⟨g, 0, none⟩)) (hy : a.eval y = .agg #[.int .i64 d, .int .i64 n]) (hr : Row w g old T) (hold : old.size = 2)
  (h : ∀ w', Row w' g #[.int .i64 d, .int .i64 n] T → Onto g w w' → w'.heap.size = w.heap.size → wpList Tryz.prog ops Q rest (a.put o.dst undef) w') : wpList Tryz.prog ops Q (o :: rest) a w :=
 st_row hgd _ x y ho hx hy hr info_shift hold (by simp [Value.oneCell']) h
end
def lfOk (b : Bool) (n : Int) : Bool := if b then inn n 1 8 else n == 0
def ldOk (b l t : Bool) : Bool := (b || !l) && (l || !t)
def nxOk (b l t : Bool) (x : Int) : Bool := if b && l && !t then clk x else x == 0
theorem bitOk_impl (n : Int) (w : World) :
  Calls Tryz.prog 134 #[.int .i64 n] w fun e w' => e = .returned (.bool (inn n 0 1)) ∧ w' = w := by
 by_cases h0 : n = 0
 ·subst h0
  go_enter Tryz.func134, Tryz.ntmps134
  go_wp2
  go_ret
  exact ⟨rfl, rfl⟩
 ·go_enter Tryz.func134, Tryz.ntmps134
  go_wp2
  go_ret
  exact ⟨ret_bool (by rw [Bool.eq_iff_iff]; simp [inn]; omega), rfl⟩
theorem dataOk_impl (d n : Int) (w : World) :
  Calls Tryz.prog 142 #[.agg #[.int .i64 d, .int .i64 n]] w fun e w' => e = .returned (.bool (bok d)) ∧ Below w.heap.size w w' := by
 go_enter Tryz.func142, Tryz.ntmps142
 go_wp2_with (go_at_call 75; refine (byteOk_impl _ _).mono ?_; rintro e w1 ⟨rfl, rfl⟩)
 go_ret
 exact ⟨rfl, (Below.refl _ _).alloc (Nat.le_refl _) _⟩
theorem leftOk_impl (d n : Int) (b : Bool) (w : World) :
  Calls Tryz.prog 143 #[.agg #[.int .i64 d, .int .i64 n], .bool b] w fun e w' => e = .returned (.bool (lfOk b n)) ∧ Below w.heap.size w w' := by
 cases b
 ·go_enter Tryz.func143, Tryz.ntmps143
  go_wp2
  go_ret
  exact ⟨ret_bool (by simp [lfOk]), (Below.refl _ _).alloc (Nat.le_refl _) _⟩
 ·by_cases h1 : 1 ≤ n
  ·go_enter Tryz.func143, Tryz.ntmps143
   go_wp2
   go_ret
   exact ⟨ret_bool (by simp [lfOk, inn, h1]), (Below.refl _ _).alloc (Nat.le_refl _) _⟩
  ·go_enter Tryz.func143, Tryz.ntmps143
   go_wp2
   go_ret
   exact ⟨ret_bool (by simp [lfOk, inn]; omega), (Below.refl _ _).alloc (Nat.le_refl _) _⟩
theorem leadOk_impl (d n x : Int) (b l t : Bool) (w : World) :
  Calls Tryz.prog 144 #[.agg #[.int .i64 d, .int .i64 n, .bool b, .bool l, .int .i64 x, .bool t]] w fun e w' => e = .returned (.bool (ldOk b l t)) ∧ Below w.heap.size w w' := by
 cases b <;> cases l <;> cases t
 all_goals
  go_enter Tryz.func144, Tryz.ntmps144
  go_wp2
  go_ret
  exact ⟨rfl, (Below.refl _ _).alloc (Nat.le_refl _) _⟩
theorem nextAtOk_impl (d n x : Int) (b l t : Bool) (w : World) :
  Calls Tryz.prog 145 #[.agg #[.int .i64 d, .int .i64 n, .bool b, .bool l, .int .i64 x, .bool t]] w fun e w' => e = .returned (.bool (nxOk b l t x)) ∧ Below w.heap.size w w' := by
 cases b <;> cases l <;> cases t
 all_goals
  go_enter Tryz.func145, Tryz.ntmps145
  go_wp2_with (go_at_call 140; refine (clockOk_impl _ _).mono ?_; rintro e w1 ⟨rfl, rfl⟩)
  go_ret
  exact ⟨ret_bool (by simp [nxOk]), (Below.refl _ _).alloc (Nat.le_refl _) _⟩
theorem through_impl (d n : Int) (w : World) :
  Calls Tryz.prog 232 #[.agg #[.int .i64 d, .int .i64 n]] w fun e w' => e = .returned (.bool (decide (n = 0))) ∧ Below w.heap.size w w' := by
 go_enter Tryz.func232, Tryz.ntmps232
 go_wp2
 go_ret
 exact ⟨ret_bool rfl, (Below.refl _ _).alloc (Nat.le_refl _) _⟩
theorem highBit_impl (d n : Int) (w : World) (h : 0 ≤ d ∧ d ≤ 255) :
  Calls Tryz.prog 230 #[.agg #[.int .i64 d, .int .i64 n]] w fun e w' => e = .returned (.int .i64 (d / 128)) ∧ Below w.heap.size w w' := by
 have hb : bok d = true := bok_mk h.1 h.2
 by_cases hd : 127 < d
 ·have e : turnLC d = true := by simp [turnLC, hb, hd]
  have e2 : d / 128 = 1 := by omega
  rw [e2]
  go_enter Tryz.func230, Tryz.ntmps230
  go_wp2_with (go_at_call 209; refine (turnedLeft_impl _ _).mono ?_; rintro e w1 ⟨rfl, rfl⟩; rw [e])
  go_ret
  exact ⟨rfl, (Below.refl _ _).alloc (Nat.le_refl _) _⟩
 ·have e : turnLC d = false := by simp [turnLC, hb, hd]
  have e2 : d / 128 = 0 := by omega
  rw [e2]
  go_enter Tryz.func230, Tryz.ntmps230
  go_wp2_with (go_at_call 209; refine (turnedLeft_impl _ _).mono ?_; rintro e w1 ⟨rfl, rfl⟩; rw [e])
  go_ret
  exact ⟨rfl, (Below.refl _ _).alloc (Nat.le_refl _) _⟩
theorem portOf_impl (s : Sr) (w : World) :
  Calls Tryz.prog 141 #[s.val] w fun e w' => e = .returned s.port ∧ Below w.heap.size w w' := by
 rw [Sr.eta s]
 go_enter Tryz.func141, Tryz.ntmps141
 go_wp2_with (refine st_port rfl rfl rfl rfl (Row.new1 (w := w.alloc _) (n := w.heap.size + 1) (by simp) _ _) rfl ?_; intro w2 r3 ho2 hs2)
 refine ret_row rfl rfl r3 und_port rfl info_port rfl ?_
 exact ⟨rfl, below_onto (((Below.refl _ w).alloc (Nat.le_refl _) _).alloc (by simp) _) ho2 (by omega)⟩
theorem serial_impl (s : Sr) (w : World) :
  Calls Tryz.prog 229 #[s.port] w fun e w' => e = .returned s.val ∧ Below w.heap.size w w' := by
 rw [Sr.eta_port s]
 go_enter Tryz.func229, Tryz.ntmps229
 go_wp2_with (refine st_sr rfl rfl rfl rfl (Row.new1 (w := w.alloc _) (n := w.heap.size + 1) (by simp) _ _) rfl ?_; intro w2 r3 ho2 hs2)
 refine ret_row rfl rfl r3 und_sr rfl info_sr rfl ?_
 exact ⟨rfl, below_onto (((Below.refl _ w).alloc (Nat.le_refl _) _).alloc (by simp) _) ho2 (by omega)⟩
theorem und_shift : Tryz.prog.underlying 151 = some (.struct #[{ name := "data", type := 2, offset := 0, embedded := false, tag := "", pkgPath := "loop.example/g00741/impl", byteOffset := 0 }, { name := "left", type := 2, offset := 1, embedded := false, tag := "", pkgPath := "loop.example/g00741/impl", byteOffset := 8 }]) := by kernel_rfl
theorem shifted_impl (d n bit : Int) (w : World) (h : 0 ≤ d ∧ d ≤ 255) (hb : 0 ≤ bit ∧ bit ≤ 1) (hn : 1 ≤ n ∧ n ≤ 8) :
  Calls Tryz.prog 231 #[.agg #[.int .i64 d, .int .i64 n], .int .i64 bit] w fun e w' => e = .returned (.agg #[.int .i64 (2 * d % 256 + bit), .int .i64 (n - 1)]) ∧ Below w.heap.size w w' := by
 have hd : bok d = true := bok_mk h.1 h.2
 have e1 : addB d d = 2 * d % 256 := by simp [addB, hd]; omega
 go_enter Tryz.func231, Tryz.ntmps231
 go_wp2_with (first
  | (go_at_call 188; refine (addByte_impl _ _ _).mono ?_; rintro e w1 ⟨rfl, rfl⟩; rw [e1])
  | (refine st_shift rfl rfl rfl rfl (Row.new1 (w := w.alloc _) (n := w.heap.size + 1) (by simp) _ _) rfl ?_; intro w2 r3 ho2 hs2))
 refine ret_row rfl rfl r3 und_shift rfl info_shift rfl ?_
 exact ⟨rfl, below_onto (((Below.refl _ w).alloc (Nat.le_refl _) _).alloc (by simp) _) ho2 (by omega)⟩
theorem Sr.ok_port (s : Sr) : s.ok = (bok s.d && lfOk s.b s.n && ldOk s.b s.l s.t && nxOk s.b s.l s.t s.x) := by
 obtain ⟨d, b, l, n, x, t⟩ := s
 have k0 : clk 0 = true := by decide
 have kx : (clk x && x == 0) = (x == 0) := by
  rw [Bool.eq_iff_iff]; simp only [Bool.and_eq_true, beq_iff_eq]
  exact ⟨fun h => h.2, fun h => by subst h; exact ⟨k0, rfl⟩⟩
 cases b <;> cases l <;> cases t <;> simp only [Sr.ok, lfOk, ldOk, nxOk] <;> cases bok d <;> cases hx : clk x <;> simp_all
set_option maxHeartbeats 4000000 in
theorem serialOk_impl (s : Sr) (w : World) :
  Calls Tryz.prog 78 #[s.val] w fun e w' => e = .returned (.bool s.ok) ∧ Below w.heap.size w w' := by
 rw [Sr.ok_port s, Sr.eta s]
 go_enter Tryz.func78, Tryz.ntmps78
 go_wp2_with (first
  | (go_at_call 141; refine (portOf_impl s _).mono ?_; rintro e w1 ⟨rfl, hb⟩; have hB := ((Below.refl _ w).alloc (Nat.le_refl _) _).trans (hb.mono (by simp)); clear hb; rw [Sr.eta_port])
  | (refine st_port rfl rfl rfl rfl (Row.new _ _ _) rfl ?_; intro w2 r3 ho2 hs2; replace hB := below_onto (hB.alloc hB.size _) ho2 hB.size; have c3 := r3.cell)
  | (go_at_call 142; refine (dataOk_impl _ _ _).mono ?_; rintro e w1 ⟨rfl, hb⟩; replace r3 := r3.below hb; have c3 := r3.cell; replace hB := below_more hB hb; generalize hc1 : bok _ = r; cases r)
  | (go_at_call 143; refine (leftOk_impl _ _ _ _).mono ?_; rintro e w1 ⟨rfl, hb⟩; replace r3 := r3.below hb; have c3 := r3.cell; replace hB := below_more hB hb; generalize hc2 : lfOk _ _ = r; cases r)
  | (go_at_call 144; refine (leadOk_impl _ _ _ _ _ _ _).mono ?_; rintro e w1 ⟨rfl, hb⟩; replace r3 := r3.below hb; have c3 := r3.cell; replace hB := below_more hB hb; generalize hc3 : ldOk _ _ _ = r; cases r)
  | (go_at_call 145; refine (nextAtOk_impl _ _ _ _ _ _ _).mono ?_; rintro e w1 ⟨rfl, hb⟩; replace r3 := r3.below hb; have c3 := r3.cell; replace hB := below_more hB hb; generalize hc4 : nxOk _ _ _ _ = r; cases r))
 all_goals go_ret
 all_goals exact ⟨ret_bool (by simp [*]), hB⟩
end Go.Proofs.YtghmkacamabndaaGreatDoor.Srl
namespace Go.Proofs.YtghmkacamabndaaGreatDoor.Srl
open Go.ChangeShapes Go.WideShapes Go.RowKit Base Num Slc Rw Reg Tmr

theorem Sr.starts_port (s : Sr) (lead : Bool) (now : Int) : s.starts lead now = (s.ok && clk now && (!lead || clk (now + 32))) := by
 rw [Bool.eq_iff_iff]
 cases lead
 ·simp [Sr.starts, clk, inn]
 ·simp [Sr.starts, clk, inn]
  constructor
  ·rintro ⟨h, _⟩; exact ⟨⟨h, by omega⟩, by omega⟩
  ·rintro ⟨⟨h, _⟩, _⟩; exact ⟨h, by omega⟩
theorem info_i64 : (Tryz.prog.info? 2).map (·.size) = some 1 := by kernel_rfl
theorem info_bool : (Tryz.prog.info? 4).map (·.size) = some 1 := by kernel_rfl
set_option maxHeartbeats 4000000 in
theorem serialStart_impl (s : Sr) (lead : Bool) (now : Int) (w : World) :
  Calls Tryz.prog 262 #[s.val, .bool lead, .int .i64 now] w fun e w' => e = .returned (s.start lead now).val ∧ Below w.heap.size w w' := by
 rw [Sr.eta s]
 have hsp := Sr.starts_port s lead now
 cases hok : s.ok
 ·rw [Sr.start_no (by simp [hsp, hok])]
  go_enter Tryz.func262, Tryz.ntmps262
  go_wp2_with (first
   | (go_at_call 78; refine (serialOk_impl s _).mono ?_; rintro e w1 ⟨rfl, hb⟩; rw [hok]; obtain ⟨r1, r2, hB⟩ := box2 hb)
   | (refine st_sr rfl rfl rfl rfl r2 rfl ?_; intro w2 r3 ho2 hs2))
  refine ret_row rfl rfl r3 und_sr rfl info_sr rfl ?_
  exact ⟨rfl, below_onto hB ho2 (by omega)⟩
 cases hk : clk now
 ·rw [Sr.start_no (by simp [hsp, hk])]
  go_enter Tryz.func262, Tryz.ntmps262
  go_wp2_with (first
   | (go_at_call 78; refine (serialOk_impl s _).mono ?_; rintro e w1 ⟨rfl, hb⟩; rw [hok]; obtain ⟨r1, r2, hB⟩ := box2 hb)
   | (go_at_call 140; refine (clockOk_impl _ _).mono ?_; rintro e w1 ⟨rfl, rfl⟩; rw [hk])
   | (refine st_sr rfl rfl rfl rfl r2 rfl ?_; intro w2 r3 ho2 hs2))
  refine ret_row rfl rfl r3 und_sr rfl info_sr rfl ?_
  exact ⟨rfl, below_onto hB ho2 (by omega)⟩
 have hn := clk_true hk
 cases lead
 ·have e : s.start false now = ⟨s.d, true, false, 8, 0, false⟩ := by simp [Sr.start, hsp, hok, hk]
  rw [e]
  go_enter Tryz.func262, Tryz.ntmps262
  go_wp2_with (first
   | (go_at_call 78; refine (serialOk_impl s _).mono ?_; rintro e w1 ⟨rfl, hb⟩; rw [hok]; obtain ⟨r1, r2, hB⟩ := box2 hb; clear hb; have c1 := r1.cell)
   | (go_at_call 140; refine (clockOk_impl _ _).mono ?_; rintro e w1 ⟨rfl, rfl⟩; rw [hk])
   | (refine st_port rfl rfl rfl rfl (Row.new _ _ _) rfl ?_; intro w2 r4 ho2 hs2; have r5 := (r2.alloc _).onto ho2 (Nat.ne_of_lt r2.lt); replace hB := below_onto (hB.alloc hB.size _) ho2 hB.size; have c4 := r4.cell; clear ho2 hs2)
   | (go_at_call 229; refine (serial_impl ⟨s.d, true, false, 8, 0, false⟩ _).mono ?_; rintro e w3 ⟨rfl, hb3⟩; replace r5 := r5.below hb3; replace hB := below_more hB hb3; rw [Sr.eta])
   | (refine st_sr rfl rfl rfl rfl r5 rfl ?_; intro w4 r6 ho4 hs4))
  refine ret_row rfl rfl r6 und_sr rfl info_sr rfl ?_
  exact ⟨rfl, below_onto hB ho4 (by omega)⟩
 cases hk2 : clk (now + 32)
 ·rw [Sr.start_no (by simp [hsp, hk2])]
  go_enter Tryz.func262, Tryz.ntmps262
  go_wp2_with (first
   | (go_at_call 78; refine (serialOk_impl s _).mono ?_; rintro e w1 ⟨rfl, hb⟩; rw [hok]; obtain ⟨r1, r2, hB⟩ := box2 hb)
   | (go_at_call 140; refine (clockOk_impl _ _).mono ?_; rintro e w1 ⟨rfl, rfl⟩; first | rw [hk] | rw [hk2])
   | (refine st_sr rfl rfl rfl rfl r2 rfl ?_; intro w2 r3 ho2 hs2))
  refine ret_row rfl rfl r3 und_sr rfl info_sr rfl ?_
  exact ⟨rfl, below_onto hB ho2 (by omega)⟩
 ·have e : s.start true now = ⟨s.d, true, true, 8, now + 32, false⟩ := by simp [Sr.start, hsp, hok, hk, hk2]
  rw [e]
  go_enter Tryz.func262, Tryz.ntmps262
  go_wp2_with (first
   | (go_at_call 78; refine (serialOk_impl s _).mono ?_; rintro e w1 ⟨rfl, hb⟩; rw [hok]; obtain ⟨r1, r2, hB⟩ := box2 hb; clear hb; have c1 := r1.cell)
   | (go_at_call 140; refine (clockOk_impl _ _).mono ?_; rintro e w1 ⟨rfl, rfl⟩; first | rw [hk] | rw [hk2])
   | (refine st_port rfl rfl rfl rfl (Row.new _ _ _) rfl ?_; intro w2 r4 ho2 hs2; have r5 := (r2.alloc _).onto ho2 (Nat.ne_of_lt r2.lt); have n5 : w.heap.size + 1 ≠ _ := Nat.ne_of_lt r2.lt; have hB0 := hB.size; replace hB := below_onto (hB.alloc hB.size _) ho2 hB.size; have c4 := r4.cell; clear ho2 hs2)
   | (refine st_int rfl rfl rfl rfl r4 info_i64 rfl ?_; intro w6 r7 ho6 hs6; simp only [List.setIfInBounds_toArray, List.set_cons_succ, List.set_cons_zero] at r7; replace r5 := r5.onto ho6 n5; replace hB := below_onto hB ho6 hB0; have c7 := r7.cell; clear ho6 hs6)
   | (go_at_call 229; refine (serial_impl ⟨s.d, true, true, 8, now + 32, false⟩ _).mono ?_; rintro e w3 ⟨rfl, hb3⟩; replace r5 := r5.below hb3; replace hB := below_more hB hb3; rw [Sr.eta])
   | (refine st_sr rfl rfl rfl rfl r5 rfl ?_; intro w4 r6 ho4 hs4))
  refine ret_row rfl rfl r6 und_sr rfl info_sr rfl ?_
  exact ⟨rfl, below_onto hB ho4 (by omega)⟩
end Go.Proofs.YtghmkacamabndaaGreatDoor.Srl
namespace Go.Proofs.YtghmkacamabndaaGreatDoor.Mem
open Go.ChangeShapes Go.WideShapes Go.RowKit Base Num Slc Rw Tmr Srl Rom RomOf

structure Mc where
 rom : List Int
 ram : List Int
 a : Int
 b : Int
 pc : Int
 sp : Int
 z : Bool
 c : Bool
 e : Bool
 h : Bool
 s : Bool
 fl : Int
 ms : Int
 ky : Int
 t : Tm
 p : Sr
 k : Int
def Mc.cells (vr va : Value) (m : Mc) : Array Value := #[vr, va, .int .i64 m.a, .int .i64 m.b, .int .i64 m.pc, .int .i64 m.sp, .bool m.z, .bool m.c, .bool m.e, .bool m.h, .bool m.s, .int .i64 m.fl, .int .i64 m.ms, .int .i64 m.ky,
 .int .i64 m.t.c, .int .i64 m.t.v, .int .i64 m.t.s, .int .i64 m.t.m, .int .i64 m.p.d, .bool m.p.b, .bool m.p.l, .int .i64 m.p.n, .int .i64 m.p.x, .bool m.p.t, .int .i64 m.k]
def Mc.val (vr va : Value) (m : Mc) : Value := .agg (m.cells vr va)
def Mc.nul : Mc := ⟨[], [], 0, 0, 0, 0, false, false, false, false, false, 0, 0, 0, Tm.nul, Sr.nul, 0⟩
def Mc.ok (m : Mc) : Bool := romOk m.rom && decide (m.ram.length = 64) && m.ram.all bok && bok m.a && bok m.b && bok m.pc && bok m.sp && inn m.fl 0 7 && inn m.ms 0 7 && bok m.ky && m.t.ok && m.p.ok && (m.k == m.t.c)
def flag (b : Bool) : Int := if b then 1 else 0
def Mc.read (m : Mc) (q : Int) : Int :=
 if q < 128 then (if q < m.rom.length then m.rom.getD q.toNat 0 else 255)
 else if q < 192 then m.ram.getD (q - 128).toNat 0
 else if q = 240 then m.p.d
 else if q = 241 then 128 * flag m.p.b + flag m.p.l
 else if q = 242 then m.t.c / 16 % 256
 else if q = 243 then m.t.v
 else if q = 244 then m.t.s
 else if q = 245 then m.t.m
 else if q = 246 then m.fl
 else if q = 247 then m.ms
 else if q = 248 then m.ky
 else 255
def Mc.readAt (m : Mc) (q : Int) : Int := if m.ok && bok q then m.read q else -1
def Mc.write (m : Mc) (q n : Int) : Mc :=
 if 128 ≤ q ∧ q < 192 then { m with ram := m.ram.set (q - 128).toNat n }
 else if q = 240 then { m with p := { m.p with d := n } }
 else if q = 241 then { m with p := if 127 < n then m.p.start (n % 2 == 1) m.k else ⟨m.p.d, false, false, 0, 0, false⟩ }
 else if q = 243 then { m with t := { m.t with v := n } }
 else if q = 244 then { m with t := { m.t with s := n } }
 else if q = 245 then { m with t := { m.t with m := n % 8 } }
 else if q = 246 then { m with fl := n % 8 }
 else if q = 247 then { m with ms := n % 8 }
 else m
def Mc.writtenAt (m : Mc) (q n : Int) : Mc := if m.ok && bok q && bok n then m.write q n else Mc.nul

theorem info_mc : (Tryz.prog.info? 30).map (·.size) = some 25 := by kernel_rfl
theorem Mc.size (vr va : Value) (m : Mc) : (m.cells vr va).size = 25 := rfl
theorem one_sl {w : World} {v : Value} {l : List Int} (h : Sl w v l) : v.oneCell' = true := by
 obtain ⟨a, cap, rfl, _⟩ := h; rfl
def MSl (w : World) (v : Value) (m : Mc) : Prop := ∃ vr va, v = m.val vr va ∧ Sl w vr m.rom ∧ Sl w va m.ram
def MOwn (base : Nat) (w : World) (v : Value) (m : Mc) : Prop := ∃ vr va, v = m.val vr va ∧ Own base w vr m.rom ∧ Own base w va m.ram ∧ ∀ k, vr.ownBlock = some k → va.ownBlock ≠ some k
theorem MOwn.sl {base : Nat} {w : World} {v : Value} {m : Mc} (h : MOwn base w v m) : MSl w v m := by
 obtain ⟨vr, va, rfl, h1, h2, _⟩ := h
 exact ⟨vr, va, rfl, h1.sl, h2.sl⟩
theorem MSl.below {w w' : World} {v : Value} {m : Mc} (h : MSl w v m) (hb : Below w.heap.size w w') : MSl w' v m := by
 obtain ⟨vr, va, rfl, h1, h2⟩ := h
 exact ⟨vr, va, rfl, h1.below hb, h2.below hb⟩
theorem MOwn.below {base : Nat} {w w' : World} {v : Value} {m : Mc} (h : MOwn base w v m) (hb : Below w.heap.size w w') : MOwn base w' v m := by
 obtain ⟨vr, va, rfl, h1, h2, h3⟩ := h
 exact ⟨vr, va, rfl, h1.below hb, h2.below hb, h3⟩
theorem MOwn.mono {base base' : Nat} {w : World} {v : Value} {m : Mc} (h : MOwn base w v m) (hb : base' ≤ base) : MOwn base' w v m := by
 obtain ⟨vr, va, rfl, h1, h2, h3⟩ := h
 exact ⟨vr, va, rfl, h1.mono hb, h2.mono hb, h3⟩
theorem nul_own (base : Nat) (w : World) : MOwn base w (Mc.nul.val (.slice none 0 0) (.slice none 0 0)) Mc.nul := ⟨_, _, rfl, Own.nil _ _, Own.nil _ _, by simp [Value.ownBlock]⟩
theorem Mc.ok_rom {m : Mc} (h : m.ok = true) : romOk m.rom = true ∧ m.ram.length = 64 ∧ m.t.ok = true ∧ m.p.ok = true ∧ m.k = m.t.c := by
 simp only [Mc.ok, Bool.and_eq_true, decide_eq_true_eq, beq_iff_eq] at h
 obtain ⟨⟨⟨⟨⟨⟨⟨⟨⟨⟨⟨⟨h1, h2⟩, _⟩, _⟩, _⟩, _⟩, _⟩, _⟩, _⟩, _⟩, h3⟩, h4⟩, h5⟩ := h
 exact ⟨h1, h2, h3, h4, h5⟩
theorem Mc.ok_parts {m : Mc} (h : m.ok = true) : (0 ≤ m.fl ∧ m.fl ≤ 7) ∧ (0 ≤ m.ms ∧ m.ms ≤ 7) := by
 simp only [Mc.ok, Bool.and_eq_true, decide_eq_true_eq, beq_iff_eq] at h
 obtain ⟨⟨⟨⟨⟨⟨⟨⟨⟨⟨⟨⟨_, _⟩, _⟩, _⟩, _⟩, _⟩, _⟩, h1⟩, h2⟩, _⟩, _⟩, _⟩, _⟩ := h
 exact ⟨inn_true h1, inn_true h2⟩
theorem romOk_len {l : List Int} (h : romOk l = true) : 2 ≤ l.length ∧ l.length ≤ 128 := by
 simp only [romOk, Bool.and_eq_true, decide_eq_true_eq] at h
 exact ⟨h.1.1.1, h.1.1.2⟩

theorem flagsOk_impl (n : Int) (w : World) :
  Calls Tryz.prog 76 #[.int .i64 n] w fun e w' => e = .returned (.bool (inn n 0 7)) ∧ w' = w := by
 by_cases h0 : 0 ≤ n
 ·go_enter Tryz.func76, Tryz.ntmps76
  go_wp2
  go_ret
  exact ⟨ret_bool (by simp [inn, h0]; omega), rfl⟩
 ·go_enter Tryz.func76, Tryz.ntmps76
  go_wp2
  go_ret
  exact ⟨ret_bool (by simp [inn]; omega), rfl⟩
structure Cs (cs : Array Value) (vr va : Value) (m : Mc) : Prop where
 vr : cs[0]? = some (vr)
 va : cs[1]? = some (va)
 a : cs[2]? = some (.int .i64 m.a)
 b : cs[3]? = some (.int .i64 m.b)
 pc : cs[4]? = some (.int .i64 m.pc)
 sp : cs[5]? = some (.int .i64 m.sp)
 z : cs[6]? = some (.bool m.z)
 c : cs[7]? = some (.bool m.c)
 e : cs[8]? = some (.bool m.e)
 h : cs[9]? = some (.bool m.h)
 s : cs[10]? = some (.bool m.s)
 fl : cs[11]? = some (.int .i64 m.fl)
 ms : cs[12]? = some (.int .i64 m.ms)
 ky : cs[13]? = some (.int .i64 m.ky)
 tc : cs[14]? = some (.int .i64 m.t.c)
 tv : cs[15]? = some (.int .i64 m.t.v)
 ts : cs[16]? = some (.int .i64 m.t.s)
 tm : cs[17]? = some (.int .i64 m.t.m)
 pd : cs[18]? = some (.int .i64 m.p.d)
 pb : cs[19]? = some (.bool m.p.b)
 pl : cs[20]? = some (.bool m.p.l)
 pn : cs[21]? = some (.int .i64 m.p.n)
 px : cs[22]? = some (.int .i64 m.p.x)
 pt : cs[23]? = some (.bool m.p.t)
 k : cs[24]? = some (.int .i64 m.k)
 tim : cs.extract 14 (14 + 4) = #[.int .i64 m.t.c, .int .i64 m.t.v, .int .i64 m.t.s, .int .i64 m.t.m]
 ser : cs.extract 18 (18 + 6) = #[.int .i64 m.p.d, .bool m.p.b, .bool m.p.l, .int .i64 m.p.n, .int .i64 m.p.x, .bool m.p.t]
 size : cs.size = 25
theorem Cs.of (vr va : Value) (m : Mc) : Cs (m.cells vr va) vr va m := ⟨rfl, rfl, rfl, rfl, rfl, rfl, rfl, rfl, rfl, rfl, rfl, rfl, rfl, rfl, rfl, rfl, rfl, rfl, rfl, rfl, rfl, rfl, rfl, rfl, rfl, rfl, rfl, rfl⟩
theorem Mc.open (vr va : Value) (m : Mc) : ∃ cs, m.val vr va = .agg cs ∧ m.cells vr va = cs ∧ Cs cs vr va m := ⟨_, rfl, rfl, Cs.of _ _ _⟩
section
variable {ops : Array Oper} {rest : List Oper} {o : Oper} {a : Act} {w : World} {Q : Exit → Act → World → Prop} {x : Operand} {g k : Nat} {cs : Array Value} {T : TypeId} {v : Value}
theorem ld_t {m : Mc} {vr va : Value} (hgd : o.guard = none) (ho : o.op = .load 26 x) (hx : a.eval x = .pointer (some ⟨g, 14, none⟩)) (hr : Row w g cs T) (hk : Cs cs vr va m) (h : wpList Tryz.prog ops Q rest (a.put o.dst m.t.val) w) : wpList Tryz.prog ops Q (o :: rest) a w :=
 ld_in (cs' := #[.int .i64 m.t.c, .int .i64 m.t.v, .int .i64 m.t.s, .int .i64 m.t.m]) hgd ho hx hr Tryz.underlying26 rfl hk.tim (by kernel_rfl) h
theorem ld_p {m : Mc} {vr va : Value} (hgd : o.guard = none) (ho : o.op = .load 28 x) (hx : a.eval x = .pointer (some ⟨g, 18, none⟩)) (hr : Row w g cs T) (hk : Cs cs vr va m) (h : wpList Tryz.prog ops Q rest (a.put o.dst m.p.val) w) : wpList Tryz.prog ops Q (o :: rest) a w :=
 ld_in (cs' := #[.int .i64 m.p.d, .bool m.p.b, .bool m.p.l, .int .i64 m.p.n, .int .i64 m.p.x, .bool m.p.t]) hgd ho hx hr Tryz.underlying28 rfl hk.ser (by kernel_rfl) h
theorem box_mc {vr va : Value} {m : Mc} (hgd : o.guard = none) (ho : o.op = .box 30 x) (hx : a.eval x = .agg cs) (hk : Cs cs vr va m)
  (h : ∀ w', Row w' w.heap.size cs 30 → Below w.heap.size w w' → wpList Tryz.prog ops Q rest (a.put o.dst (.pointer (some ⟨w.heap.size, 0, none⟩))) w') : wpList Tryz.prog ops Q (o :: rest) a w :=
 wpList_plain hgd fun _ hK => by
  have e : (Instr.box 30 (.agg cs)).run Tryz.prog w = .ok (.pointer (some ⟨w.heap.size, 0, none⟩)) (w.alloc (.cells cs 30)) := rfl
  unfold Oper.wp execOp
  simp only [ho, hx, Sem.run_bind, Result.andThen_ok, e]
  exact hK _ _ (h _ (Row.new _ _ _) ((Below.refl _ _).alloc (Nat.le_refl _) _))
end
structure Cw (w : World) (g : Nat) (vr va : Value) (m : Mc) : Prop where
 vr : w.cell? ⟨g, 0, none⟩ = some (vr)
 va : w.cell? ⟨g, 1, none⟩ = some (va)
 a : w.cell? ⟨g, 2, none⟩ = some (.int .i64 m.a)
 b : w.cell? ⟨g, 3, none⟩ = some (.int .i64 m.b)
 pc : w.cell? ⟨g, 4, none⟩ = some (.int .i64 m.pc)
 sp : w.cell? ⟨g, 5, none⟩ = some (.int .i64 m.sp)
 z : w.cell? ⟨g, 6, none⟩ = some (.bool m.z)
 c : w.cell? ⟨g, 7, none⟩ = some (.bool m.c)
 e : w.cell? ⟨g, 8, none⟩ = some (.bool m.e)
 h : w.cell? ⟨g, 9, none⟩ = some (.bool m.h)
 s : w.cell? ⟨g, 10, none⟩ = some (.bool m.s)
 fl : w.cell? ⟨g, 11, none⟩ = some (.int .i64 m.fl)
 ms : w.cell? ⟨g, 12, none⟩ = some (.int .i64 m.ms)
 ky : w.cell? ⟨g, 13, none⟩ = some (.int .i64 m.ky)
 tc : w.cell? ⟨g, 14, none⟩ = some (.int .i64 m.t.c)
 tv : w.cell? ⟨g, 15, none⟩ = some (.int .i64 m.t.v)
 ts : w.cell? ⟨g, 16, none⟩ = some (.int .i64 m.t.s)
 tm : w.cell? ⟨g, 17, none⟩ = some (.int .i64 m.t.m)
 pd : w.cell? ⟨g, 18, none⟩ = some (.int .i64 m.p.d)
 pb : w.cell? ⟨g, 19, none⟩ = some (.bool m.p.b)
 pl : w.cell? ⟨g, 20, none⟩ = some (.bool m.p.l)
 pn : w.cell? ⟨g, 21, none⟩ = some (.int .i64 m.p.n)
 px : w.cell? ⟨g, 22, none⟩ = some (.int .i64 m.p.x)
 pt : w.cell? ⟨g, 23, none⟩ = some (.bool m.p.t)
 k : w.cell? ⟨g, 24, none⟩ = some (.int .i64 m.k)
theorem Cs.at {w : World} {g : Nat} {cs : Array Value} {T : TypeId} {vr va : Value} {m : Mc} (hk : Cs cs vr va m) (hr : Row w g cs T) : Cw w g vr va m :=
 ⟨(hr.cell 0).trans hk.vr, (hr.cell 1).trans hk.va, (hr.cell 2).trans hk.a, (hr.cell 3).trans hk.b, (hr.cell 4).trans hk.pc, (hr.cell 5).trans hk.sp, (hr.cell 6).trans hk.z, (hr.cell 7).trans hk.c, (hr.cell 8).trans hk.e, (hr.cell 9).trans hk.h, (hr.cell 10).trans hk.s, (hr.cell 11).trans hk.fl, (hr.cell 12).trans hk.ms, (hr.cell 13).trans hk.ky, (hr.cell 14).trans hk.tc, (hr.cell 15).trans hk.tv, (hr.cell 16).trans hk.ts, (hr.cell 17).trans hk.tm, (hr.cell 18).trans hk.pd, (hr.cell 19).trans hk.pb, (hr.cell 20).trans hk.pl, (hr.cell 21).trans hk.pn, (hr.cell 22).trans hk.px, (hr.cell 23).trans hk.pt, (hr.cell 24).trans hk.k⟩
end Go.Proofs.YtghmkacamabndaaGreatDoor.Mem
namespace Go.Proofs.YtghmkacamabndaaGreatDoor.Mem
open Go.ChangeShapes Go.WideShapes Go.RowKit Base Num Slc Rw Tmr Srl Rom RomOf

abbrev nil64 : Value := .slice none 0 0
abbrev MRow (w : World) (g : Nat) (x y : Value) (m : Mc) : Prop := Row w g (m.cells x y) 30
theorem cells_one {v : Value} (h : v.oneCell' = true) : v.cells.toList = [v] := by
 cases v <;> first | rfl | (simp [Value.oneCell'] at h)
theorem one_own {base : Nat} {w : World} {v : Value} {l : List Int} (h : Own base w v l) : v.oneCell' = true := one_sl h.sl
theorem all_one {x y : Value} (hx : x.oneCell' = true) (hy : y.oneCell' = true) (m : Mc) : (m.cells x y).all (·.oneCell') = true := by
 unfold Value.oneCell' at hx hy
 simp only [Mc.cells, List.all_toArray, List.all_cons, List.all_nil, Value.oneCell', hx, hy, Bool.and_true]
theorem info_s : (Tryz.prog.info? 24).map (·.size) = some 1 := by kernel_rfl
theorem info_i : (Tryz.prog.info? 2).map (·.size) = some 1 := by kernel_rfl
theorem info_b : (Tryz.prog.info? 4).map (·.size) = some 1 := by kernel_rfl
theorem info_t : (Tryz.prog.info? 26).map (·.size) = some 4 := by kernel_rfl
theorem info_p : (Tryz.prog.info? 28).map (·.size) = some 6 := by kernel_rfl
section
variable {ops : Array Oper} {rest : List Oper} {o : Oper} {a : Act} {w : World} {Q : Exit → Act → World → Prop} {x y : Operand} {g k : Nat} {T : TypeId} {v vr va : Value} {m : Mc}
theorem al_mc (hgd : o.guard = none) (ho : o.op = .alloc 30)
  (h : ∀ w', MRow w' w.heap.size nil64 nil64 Mc.nul → Below w.heap.size w w' → wpList Tryz.prog ops Q rest (a.put o.dst (.pointer (some ⟨w.heap.size, 0, none⟩))) w') : wpList Tryz.prog ops Q (o :: rest) a w :=
 wpList_plain hgd fun _ hK => by
  have e : (execOp a.eval o).run Tryz.prog w = .ok (.value (.pointer (some ⟨w.heap.size, 0, none⟩))) (w.alloc (.cells (Mc.nul.cells nil64 nil64) 30)) := by
   unfold execOp
   rw [ho]
   simp [go_sem, Mc.cells, Mc.nul, Tm.nul, Sr.nul]
  unfold Oper.wp
  rw [e]
  exact hK _ _ (h _ (Row.new _ _ _) ((Below.refl _ _).alloc (Nat.le_refl _) _))
theorem box_m (hgd : o.guard = none) (ho : o.op = .box 30 x) (hx : a.eval x = m.val vr va)
  (h : ∀ w', MRow w' w.heap.size vr va m → Below w.heap.size w w' → wpList Tryz.prog ops Q rest (a.put o.dst (.pointer (some ⟨w.heap.size, 0, none⟩))) w') : wpList Tryz.prog ops Q (o :: rest) a w :=
 box_mc hgd ho hx (Cs.of vr va m) h
theorem ld_mc (hgd : o.guard = none) (ho : o.op = .load 30 x) (hx : a.eval x = .pointer (some ⟨g, 0, none⟩)) (hr : MRow w g vr va m)
  (h : wpList Tryz.prog ops Q rest (a.put o.dst (m.val vr va)) w) : wpList Tryz.prog ops Q (o :: rest) a w :=
 ld_row hgd _ x ho hx hr Tryz.underlying30 rfl info_mc h
theorem st_mc {m0 : Mc} {x0 y0 : Value} (hgd : o.guard = none) (ho : o.op = .store 30 x y) (hx : a.eval x = .pointer (some ⟨g, 0, none⟩)) (hy : a.eval y = m.val vr va) (hr : MRow w g x0 y0 m0) (h1 : vr.oneCell' = true) (h2 : va.oneCell' = true)
  (h : ∀ w', MRow w' g vr va m → Onto g w w' → w'.heap.size = w.heap.size → wpList Tryz.prog ops Q rest (a.put o.dst undef) w') : wpList Tryz.prog ops Q (o :: rest) a w :=
 st_row hgd _ x y ho hx hy hr info_mc rfl (all_one h1 h2 m) h
theorem st_rom (hgd : o.guard = none) (ho : o.op = .store 24 x y) (hx : a.eval x = .pointer (some ⟨g, 0, none⟩)) (hy : a.eval y = v) (hr : MRow w g vr va m) (h1 : v.oneCell' = true) (l : List Int)
  (h : ∀ w', MRow w' g v va { m with rom := l } → Onto g w w' → w'.heap.size = w.heap.size → wpList Tryz.prog ops Q rest (a.put o.dst undef) w') : wpList Tryz.prog ops Q (o :: rest) a w :=
 st_in (vs := [v]) (cs' := Mc.cells v va { m with rom := l }) hgd ho hx hy hr (cells_one h1) info_s rfl (by simp [h1]) rfl h
theorem st_ram (hgd : o.guard = none) (ho : o.op = .store 24 x y) (hx : a.eval x = .pointer (some ⟨g, 1, none⟩)) (hy : a.eval y = v) (hr : MRow w g vr va m) (h1 : v.oneCell' = true) (l : List Int)
  (h : ∀ w', MRow w' g vr v { m with ram := l } → Onto g w w' → w'.heap.size = w.heap.size → wpList Tryz.prog ops Q rest (a.put o.dst undef) w') : wpList Tryz.prog ops Q (o :: rest) a w :=
 st_in (vs := [v]) (cs' := Mc.cells vr v { m with ram := l }) hgd ho hx hy hr (cells_one h1) info_s rfl (by simp [h1]) rfl h
theorem st_num {z : Int} {m' : Mc} (hgd : o.guard = none) (ho : o.op = .store 2 x y) (hx : a.eval x = .pointer (some ⟨g, k, none⟩)) (hy : a.eval y = .int .i64 z) (hr : MRow w g vr va m) (hk : decide (k < 25) = true)
  (hcs : (m.cells vr va).setIfInBounds k (.int .i64 z) = m'.cells vr va)
  (h : ∀ w', MRow w' g vr va m' → Onto g w w' → w'.heap.size = w.heap.size → wpList Tryz.prog ops Q rest (a.put o.dst undef) w') : wpList Tryz.prog ops Q (o :: rest) a w :=
 st_in (vs := [.int .i64 z]) hgd ho hx hy hr rfl info_i (by rw [Mc.size]; exact hk) rfl hcs h
theorem st_yes {z : Bool} {m' : Mc} (hgd : o.guard = none) (ho : o.op = .store 4 x y) (hx : a.eval x = .pointer (some ⟨g, k, none⟩)) (hy : a.eval y = .bool z) (hr : MRow w g vr va m) (hk : decide (k < 25) = true)
  (hcs : (m.cells vr va).setIfInBounds k (.bool z) = m'.cells vr va)
  (h : ∀ w', MRow w' g vr va m' → Onto g w w' → w'.heap.size = w.heap.size → wpList Tryz.prog ops Q rest (a.put o.dst undef) w') : wpList Tryz.prog ops Q (o :: rest) a w :=
 st_in (vs := [.bool z]) hgd ho hx hy hr rfl info_b (by rw [Mc.size]; exact hk) rfl hcs h
theorem st_port' {s : Sr} (hgd : o.guard = none) (ho : o.op = .store 28 x y) (hx : a.eval x = .pointer (some ⟨g, 18, none⟩)) (hy : a.eval y = s.val) (hr : MRow w g vr va m)
  (h : ∀ w', MRow w' g vr va { m with p := s } → Onto g w w' → w'.heap.size = w.heap.size → wpList Tryz.prog ops Q rest (a.put o.dst undef) w') : wpList Tryz.prog ops Q (o :: rest) a w :=
 st_in (vs := [.int .i64 s.d, .bool s.b, .bool s.l, .int .i64 s.n, .int .i64 s.x, .bool s.t]) (cs' := Mc.cells vr va { m with p := s }) hgd ho hx hy hr rfl info_p rfl rfl rfl h
theorem st_time' {t : Tm} (hgd : o.guard = none) (ho : o.op = .store 26 x y) (hx : a.eval x = .pointer (some ⟨g, 14, none⟩)) (hy : a.eval y = t.val) (hr : MRow w g vr va m)
  (h : ∀ w', MRow w' g vr va { m with t := t } → Onto g w w' → w'.heap.size = w.heap.size → wpList Tryz.prog ops Q rest (a.put o.dst undef) w') : wpList Tryz.prog ops Q (o :: rest) a w :=
 st_in (vs := [.int .i64 t.c, .int .i64 t.v, .int .i64 t.s, .int .i64 t.m]) (cs' := Mc.cells vr va { m with t := t }) hgd ho hx hy hr rfl info_t rfl rfl rfl h
theorem ld_time (hgd : o.guard = none) (ho : o.op = .load 26 x) (hx : a.eval x = .pointer (some ⟨g, 14, none⟩)) (hr : MRow w g vr va m) (h : wpList Tryz.prog ops Q rest (a.put o.dst m.t.val) w) : wpList Tryz.prog ops Q (o :: rest) a w :=
 ld_t hgd ho hx hr (Cs.of vr va m) h
theorem ld_ser (hgd : o.guard = none) (ho : o.op = .load 28 x) (hx : a.eval x = .pointer (some ⟨g, 18, none⟩)) (hr : MRow w g vr va m) (h : wpList Tryz.prog ops Q rest (a.put o.dst m.p.val) w) : wpList Tryz.prog ops Q (o :: rest) a w :=
 ld_p hgd ho hx hr (Cs.of vr va m) h
theorem ret_mc {fn : Func} {R : Ending → World → Prop} {q : Tmp} (h : fn.results = #[.cell q 30]) (hp : a.tmps.getD q undef = .pointer (some ⟨g, 0, none⟩)) (hr : MRow w g vr va m) (hde : a.defers = []) (hR : R (.returned (m.val vr va)) w) :
  bodyPost Tryz.prog fn R .ret a w := ret_row h hp hr Tryz.underlying30 rfl info_mc hde hR
end
theorem cw {w : World} {g : Nat} {vr va : Value} {m : Mc} (h : MRow w g vr va m) : Cw w g vr va m := (Cs.of vr va m).at h
end Go.Proofs.YtghmkacamabndaaGreatDoor.Mem
namespace Go.Proofs.YtghmkacamabndaaGreatDoor.Mem
open Go.ChangeShapes Go.WideShapes Go.RowKit Base Num Slc Rw Tmr Srl Rom RomOf Reg

theorem built_nul : Tryz.prog.built 30 [] = some (Mc.nul.cells nil64 nil64) := by kernel_rfl
section
variable {ops : Array Oper} {rest : List Oper} {o : Oper} {a : Act} {w : World} {Q : Exit → Act → World → Prop}
theorem bd_nul (hgd : o.guard = none) (ho : o.op = .build 30 #[]) (h : wpList Tryz.prog ops Q rest (a.put o.dst (Mc.nul.val nil64 nil64)) w) : wpList Tryz.prog ops Q (o :: rest) a w :=
 wpList_plain hgd fun _ hK => build_op (parts := []) (vals := []) ho rfl built_nul (hK _ _ h)
theorem ret_mc2 {fn : Func} {R : Ending → World → Prop} {q u : Tmp} {g : Nat} {vr va v : Value} {m : Mc} (h : fn.results = #[.cell q 30, .tmp u]) (hp : a.tmps.getD q undef = .pointer (some ⟨g, 0, none⟩)) (hr : MRow w g vr va m) (hde : a.defers = []) (hv : a.tmps.getD u undef = v)
  (hR : R (.returned (.tuple #[m.val vr va, v])) w) : bodyPost Tryz.prog fn R .ret a w := ret_row_tmp h hp hr Tryz.underlying30 rfl info_mc hde hv hR
end
def Apart (x y : Value) : Prop := ∀ k, x.ownBlock = some k → y.ownBlock ≠ some k
end Go.Proofs.YtghmkacamabndaaGreatDoor.Mem
namespace Go.Proofs.YtghmkacamabndaaGreatDoor.Mem
open Go.ChangeShapes Go.WideShapes Go.RowKit Base Num Slc Rw Tmr Srl Rom RomOf Ex

structure Turn (X : Nat → Prop) (w w' : World) : Prop where
 os : w'.os = w.os
 tape : w'.tape = w.tape
 output : w'.output = w.output
 size : w.heap.size ≤ w'.heap.size
 block : ∀ k, ¬ X k → k < w.heap.size → w'.heap[k]? = w.heap[k]?
theorem Turn.of {X : Nat → Prop} {w w' : World} (h : Below w.heap.size w w') : Turn X w w' := ⟨h.os, h.tape, h.output, h.size, fun k _ hk => h.block k hk⟩
theorem Turn.trans {X : Nat → Prop} {a b c : World} (h : Turn X a b) (k : Turn X b c) : Turn X a c :=
 ⟨k.os.trans h.os, k.tape.trans h.tape, k.output.trans h.output, Nat.le_trans h.size k.size, fun i hi hl => (k.block i hi (Nat.lt_of_lt_of_le hl h.size)).trans (h.block i hi hl)⟩
theorem Turn.grown {X : Nat → Prop} {w w' : World} {row : Option Nat} (h : w.grownBy w' row) (hx : ∀ k, row = some k → X k) : Turn X w w' :=
 ⟨h.os, h.tape, h.output, h.size, fun k hk hl => h.block k hl (fun e => hk (hx k e.symm))⟩
theorem Turn.own {X : Nat → Prop} {w w' : World} (t : Turn X w w') {base : Nat} {v : Value} {l : List Int} (h : Own base w v l) (hx : ∀ k, v.ownBlock = some k → ¬ X k) : Own base w' v l :=
 h.kept fun k hk => t.block k (hx k hk) (h.lt k hk).2
theorem Turn.row {X : Nat → Prop} {w w' : World} (t : Turn X w w') {g : Nat} {cs : Array Value} {T : TypeId} (h : Row w g cs T) (hx : ¬ X g) : Row w' g cs T := h.keep (t.block g hx h.lt)
theorem Turn.sl {X : Nat → Prop} {w w' : World} (t : Turn X w w') {v : Value} {l : List Int} (h : Sl w v l) (hx : 0 < l.length → ∀ k, v.ownBlock = some k → ¬ X k) : Sl w' v l := by
 obtain ⟨a, cap, rfl, h1, h2⟩ := h
 refine ⟨a, cap, rfl, ⟨h1.1, ?_⟩, h2⟩
 rcases h1.2 with h0 | ⟨b, off, rfl, hb, hc⟩
 ·exact .inl h0
 ·by_cases h0 : 0 < l.length
  ·refine .inr ⟨b, off, rfl, Nat.lt_of_lt_of_le hb t.size, fun i hi => ?_⟩
   rw [World.cell?_of_block (w := w) (a := ⟨b, off + i, none⟩) (t.block b (hx h0 b rfl) hb)]
   exact hc i hi
  ·exact .inl (by omega)
theorem Turn.below {X : Nat → Prop} {w0 w w' : World} (t : Turn X w w') (h : Below w0.heap.size w0 w) (hx : ∀ k, X k → w0.heap.size ≤ k) : Below w0.heap.size w0 w' :=
 ⟨t.os.trans h.os, t.tape.trans h.tape, t.output.trans h.output, Nat.le_trans h.size t.size, fun k hk => by
  rw [t.block k (fun e => by have := hx k e; omega) (Nat.lt_of_lt_of_le hk h.size)]; exact h.block k hk⟩
def Blk (vr va : Value) (k : Nat) : Prop := vr.ownBlock = some k ∨ va.ownBlock = some k
section
variable {ops : Array Oper} {rest : List Oper} {o : Oper} {a : Act} {w : World} {Q : Exit → Act → World → Prop} {x y : Operand} {g : Nat} {v vr va : Value} {m : Mc}
theorem box_l (hgd : o.guard = none) (ho : o.op = .box 69 x) (hx : a.eval x = m.val vr va)
  (h : ∀ w', Row w' w.heap.size (m.cells vr va) 69 → Below w.heap.size w w' → wpList Tryz.prog ops Q rest (a.put o.dst (.pointer (some ⟨w.heap.size, 0, none⟩))) w') : wpList Tryz.prog ops Q (o :: rest) a w :=
 wpList_plain hgd fun _ hK => by
  have e : (Instr.box 69 (.agg (m.cells vr va))).run Tryz.prog w = .ok (.pointer (some ⟨w.heap.size, 0, none⟩)) (w.alloc (.cells (m.cells vr va) 69)) := rfl
  unfold Oper.wp execOp
  rw [Mc.val] at hx
  simp only [ho, hx, Sem.run_bind, Result.andThen_ok, e]
  exact hK _ _ (h _ (Row.new _ _ _) ((Below.refl _ _).alloc (Nat.le_refl _) _))
theorem info_l : (Tryz.prog.info? 69).map (·.size) = some 25 := by kernel_rfl
theorem ld_l (hgd : o.guard = none) (ho : o.op = .load 69 x) (hx : a.eval x = .pointer (some ⟨g, 0, none⟩)) (hr : Row w g (m.cells vr va) 69)
  (h : wpList Tryz.prog ops Q rest (a.put o.dst (m.val vr va)) w) : wpList Tryz.prog ops Q (o :: rest) a w :=
 ld_row hgd _ x ho hx hr Tryz.underlying69 rfl info_l h
theorem ld_lt (hgd : o.guard = none) (ho : o.op = .load 66 x) (hx : a.eval x = .pointer (some ⟨g, 14, none⟩)) (hr : Row w g (m.cells vr va) 69) (h : wpList Tryz.prog ops Q rest (a.put o.dst m.t.val) w) : wpList Tryz.prog ops Q (o :: rest) a w :=
 ld_in (cs' := #[.int .i64 m.t.c, .int .i64 m.t.v, .int .i64 m.t.s, .int .i64 m.t.m]) hgd ho hx hr Tryz.underlying66 rfl rfl (by kernel_rfl) h
theorem ld_lp (hgd : o.guard = none) (ho : o.op = .load 67 x) (hx : a.eval x = .pointer (some ⟨g, 18, none⟩)) (hr : Row w g (m.cells vr va) 69) (h : wpList Tryz.prog ops Q rest (a.put o.dst m.p.val) w) : wpList Tryz.prog ops Q (o :: rest) a w :=
 ld_in (cs' := #[.int .i64 m.p.d, .bool m.p.b, .bool m.p.l, .int .i64 m.p.n, .int .i64 m.p.x, .bool m.p.t]) hgd ho hx hr Tryz.underlying67 rfl rfl (by kernel_rfl) h
end
theorem cwl {w : World} {g : Nat} {vr va : Value} {m : Mc} (h : Row w g (m.cells vr va) 69) : Cw w g vr va m := (Cs.of vr va m).at h
theorem szInts_any (v : Value) (l : List Int) (left : Int) (w : World) (h : Sl w v l) (hl : 0 ≤ left ∧ left ≤ 1048576) :
  Calls Tryz.prog 91 #[v, .int .i64 left] w fun e w' => e = .returned (.int .i64 (if left < l.length then -1 else left - l.length)) ∧ w' = w := by
 obtain ⟨a, cap, rfl, hat, hlc, hcm, hnil⟩ := h
 unfold maxLen at hcm
 clear hat hnil
 by_cases hh : left < (l.length : Int)
 ·rw [if_pos hh]
  go_enter Tryz.func91, Tryz.ntmps91
  go_wp2
  go_ret
  exact ⟨rfl, rfl⟩
 ·rw [if_neg hh]
  go_enter Tryz.func91, Tryz.ntmps91
  go_wp2
  go_ret
  exact ⟨rfl, rfl⟩
def szOf (m : Mc) : Int := if (1048576 : Int) < m.rom.length then -1 else if (1048576 : Int) - m.rom.length < m.ram.length then -1 else 1048576 - m.rom.length - m.ram.length
theorem szMachine_any (vr va : Value) (m : Mc) (w : World) (hr : Sl w vr m.rom) (ha : Sl w va m.ram) :
  Calls Tryz.prog 36 #[m.val vr va, .int .i64 1048576] w fun e w' => e = .returned (.int .i64 (szOf m)) ∧ Below w.heap.size w w' := by
 obtain ⟨vv, hvv⟩ : ∃ vv, vv = m.val vr va := ⟨_, rfl⟩
 rw [← hvv]
 by_cases h1 : (1048576 : Int) < m.rom.length
 ·have e : szOf m = -1 := by simp [szOf, h1]
  rw [e]
  go_enter Tryz.func36, Tryz.ntmps36
  go_wp2_with (first
   | (refine box_l rfl rfl hvv ?_; intro w0 r0 hB0; have k0 := (cwl r0).vr; have k1 := (cwl r0).va)
   | (go_at_call 91; refine (szInts_any vr m.rom _ _ (hr.below hB0) (by omega)).mono ?_; rintro e w1 ⟨rfl, rfl⟩; rw [if_pos h1]))
  go_ret
  exact ⟨rfl, hB0⟩
 ·by_cases h2 : (1048576 : Int) - m.rom.length < m.ram.length
  ·have e : szOf m = -1 := by simp [szOf, h1, h2]
   rw [e]
   go_enter Tryz.func36, Tryz.ntmps36
   go_wp2_with (first
    | (refine box_l rfl rfl hvv ?_; intro w0 r0 hB0; have k0 := (cwl r0).vr; have k1 := (cwl r0).va))
   go_at_call 91
   refine (szInts_any vr m.rom _ _ (hr.below hB0) (by omega)).mono ?_
   rintro e w1 ⟨rfl, rfl⟩
   rw [if_neg (show ¬ (1048576 : Int) < (m.rom.length : Int) by omega)]
   go_wp2_with fail
   go_at_call 91
   refine (szInts_any va m.ram _ _ (ha.below hB0) (by omega)).mono ?_
   rintro e w2 ⟨rfl, rfl⟩
   rw [if_pos h2]
   go_wp2
   go_ret
   exact ⟨rfl, hB0⟩
  ·have e : szOf m = 1048576 - m.rom.length - m.ram.length := by simp [szOf, h1, h2]
   rw [e]
   go_enter Tryz.func36, Tryz.ntmps36
   go_wp2_with (first
    | (refine box_l rfl rfl hvv ?_; intro w0 r0 hB0; have k0 := (cwl r0).vr; have k1 := (cwl r0).va))
   go_at_call 91
   refine (szInts_any vr m.rom _ _ (hr.below hB0) (by omega)).mono ?_
   rintro e w1 ⟨rfl, rfl⟩
   rw [if_neg (show ¬ (1048576 : Int) < (m.rom.length : Int) by omega)]
   go_wp2_with fail
   go_at_call 91
   refine (szInts_any va m.ram _ _ (ha.below hB0) (by omega)).mono ?_
   rintro e w2 ⟨rfl, rfl⟩
   rw [if_neg (show ¬ (1048576 : Int) - (m.rom.length : Int) < (m.ram.length : Int) by omega)]
   go_wp2
   go_ret
   exact ⟨rfl, hB0⟩
theorem Turn.onto {X : Nat → Prop} {g : Nat} {w w' : World} (h : Onto g w w') (hx : X g) : Turn X w w' :=
 ⟨h.os, h.tape, h.output, h.size, fun k hk hl => h.block k (fun e => hk (e ▸ hx)) hl⟩
set_option maxHeartbeats 2000000 in
theorem eqMachine_same (vr va ur ua : Value) (m : Mc) (w : World) (h1 : Sl w vr m.rom) (h2 : Sl w va m.ram) (h3 : Sl w ur m.rom) (h4 : Sl w ua m.ram) :
  Calls Tryz.prog 41 #[m.val vr va, m.val ur ua] w fun e w' => e = .returned (.bool true) ∧ Below w.heap.size w w' := by
 obtain ⟨vv, hvv⟩ : ∃ vv, vv = m.val vr va := ⟨_, rfl⟩
 obtain ⟨uu, huu⟩ : ∃ uu, uu = m.val ur ua := ⟨_, rfl⟩
 rw [← hvv, ← huu]
 go_enter Tryz.func41, Tryz.ntmps41
 go_wp2_with (first
  | (refine box_m rfl rfl hvv ?_; intro w0 r0 hB0)
  | (refine box_m rfl rfl huu ?_; intro w1 q1 hB1; have r1 := r0.below hB1; have hB2 := hB0.trans (hB1.mono hB0.size); have a0 := (cw r1).vr; have b0 := (cw q1).vr))
 go_at_call 97
 refine (eq_any vr ur m.rom m.rom _ (h1.below hB2) (h3.below hB2)).mono ?_
 rintro e w2 ⟨rfl, n2, hw2⟩
 have hb2 := drew_below hw2
 have hB3 := hB2.trans (hb2.mono hB2.size)
 have r2 := r1.below hb2
 have q2 := q1.below hb2
 clear hw2 a0 b0
 have a0 := (cw r2).va
 have b0 := (cw q2).va
 rw [decide_eq_true rfl]
 go_wp2_with fail
 go_at_call 97
 refine (eq_any va ua m.ram m.ram _ (h2.below hB3) (h4.below hB3)).mono ?_
 rintro e w3 ⟨rfl, n3, hw3⟩
 have hb3 := drew_below hw3
 have hB4 := hB3.trans (hb3.mono hB3.size)
 have r3 := r2.below hb3
 have q3 := q2.below hb3
 clear hw3 a0 b0
 rw [decide_eq_true rfl]
 have a0 := (cw r3).vr
 have a1 := (cw r3).va
 have a2 := (cw r3).a
 have a3 := (cw r3).b
 have a4 := (cw r3).pc
 have a5 := (cw r3).sp
 have a6 := (cw r3).z
 have a7 := (cw r3).c
 have a8 := (cw r3).e
 have a9 := (cw r3).h
 have a10 := (cw r3).s
 have a11 := (cw r3).fl
 have a12 := (cw r3).ms
 have a13 := (cw r3).ky
 have a24 := (cw r3).k
 have b0 := (cw q3).vr
 have b1 := (cw q3).va
 have b2 := (cw q3).a
 have b3 := (cw q3).b
 have b4 := (cw q3).pc
 have b5 := (cw q3).sp
 have b6 := (cw q3).z
 have b7 := (cw q3).c
 have b8 := (cw q3).e
 have b9 := (cw q3).h
 have b10 := (cw q3).s
 have b11 := (cw q3).fl
 have b12 := (cw q3).ms
 have b13 := (cw q3).ky
 have b24 := (cw q3).k
 go_wp2_with (first
  | (refine ld_time rfl rfl rfl r3 ?_)
  | (refine ld_time rfl rfl rfl q3 ?_))
 go_at_call 98
 refine (eqTimer_same m.t _).mono ?_
 rintro e w4 ⟨rfl, hb4⟩
 have hB5 := hB4.trans (hb4.mono hB4.size)
 have r4 := r3.below hb4
 have q4 := q3.below hb4
 clear a0 a1 a2 a3 a4 a5 a6 a7 a8 a9 a10 a11 a12 a13 a24 b0 b1 b2 b3 b4 b5 b6 b7 b8 b9 b10 b11 b12 b13 b24
 go_wp2_with (first
  | (refine ld_ser rfl rfl rfl r4 ?_)
  | (refine ld_ser rfl rfl rfl q4 ?_))
 go_at_call 99
 refine (eqSerial_same m.p _).mono ?_
 rintro e w5 ⟨rfl, hb5⟩
 have hB6 := hB5.trans (hb5.mono hB5.size)
 have a24 := (cw (r4.below hb5)).k
 have b24 := (cw (q4.below hb5)).k
 go_wp2
 go_ret
 exact ⟨rfl, hB6⟩
theorem markMachine_any (vr va : Value) (m : Mc) (w : World) (base k : Nat) (h1 : Own base w vr m.rom) (h2 : Own base w va m.ram) (h3 : ∀ k, vr.ownBlock = some k → va.ownBlock ≠ some k) (l1 : m.rom.length ≤ 4000000) (l2 : m.ram.length ≤ 4000000) (hk : k ≤ 100) (hbase : base ≤ w.heap.size) :
  Calls Tryz.prog 43 #[m.val vr va, .int .i64 (k : Int)] w fun e w' => e = .returned (.int .i64 ((k + m.rom.length + m.ram.length : Nat) : Int)) ∧ Own base w' vr (marks k m.rom.length) ∧ Own base w' va (marks (k + m.rom.length) m.ram.length) ∧ Turn (Blk vr va) w w' := by
 obtain ⟨vv, hvv⟩ : ∃ vv, vv = m.val vr va := ⟨_, rfl⟩
 rw [← hvv]
 have hvl := h1.lt
 have hal := h2.lt
 go_enter Tryz.func43, Tryz.ntmps43
 go_wp2_with (first
  | (refine box_m rfl rfl hvv ?_; intro w0 r0 hB0; have k0 := (cw r0).vr))
 go_at_call 101
 have h10 := h1.below hB0
 have h20 := h2.below hB0
 refine (mark_any vr m.rom _ base k h10 l1 (by omega)).mono ?_
 rintro e w1 ⟨rfl, h11, g1⟩
 have t1 : Turn (Blk vr va) w0 w1 := Turn.grown g1 (fun k hk => .inl hk)
 have h21 := h20.grown g1 (fun j hj => h3 j hj)
 have r1 := t1.row r0 (fun e => by rcases e with e | e; have := hvl _ e; omega; have := hal _ e; omega)
 clear k0
 have k1 := (cw r1).va
 go_wp2_with fail
 go_at_call 101
 refine (mark_any va m.ram _ base (k + m.rom.length) h21 l2 (by omega)).mono ?_
 rintro e w2 ⟨rfl, h22, g2⟩
 have t2 : Turn (Blk vr va) w1 w2 := Turn.grown g2 (fun k hk => .inr hk)
 have h12 := h11.grown g2 (fun j hj e => h3 j e hj)
 go_wp2
 go_ret
 exact ⟨rfl, h12, h22, ((Turn.of hB0).trans t1).trans t2⟩
theorem heldMachine_any (vr va : Value) (m : Mc) (w : World) (k n1 n2 : Nat) (h1 : Sl w vr (marks k n1)) (h2 : Sl w va (marks (k + n1) n2)) (l1 : n1 ≤ 4000000) (l2 : n2 ≤ 4000000) (hk : k ≤ 100) :
  Calls Tryz.prog 103 #[m.val vr va, .int .i64 (k : Int)] w fun e w' => e = .returned (.int .i64 ((k + n1 + n2 : Nat) : Int)) ∧ Below w.heap.size w w' := by
 obtain ⟨vv, hvv⟩ : ∃ vv, vv = m.val vr va := ⟨_, rfl⟩
 rw [← hvv]
 go_enter Tryz.func103, Tryz.ntmps103
 go_wp2_with (first
  | (refine box_m rfl rfl hvv ?_; intro w0 r0 hB0; have k0 := (cw r0).vr; have k1 := (cw r0).va))
 go_at_call 150
 refine (held_any vr n1 _ k (h1.below hB0) l1 (by omega)).mono ?_
 rintro e w1 ⟨rfl, rfl⟩
 go_wp2_with fail
 go_at_call 150
 refine (held_any va n2 _ (k + n1) (h2.below hB0) l2 (by omega)).mono ?_
 rintro e w2 ⟨rfl, rfl⟩
 go_wp2
 go_ret
 exact ⟨rfl, hB0⟩
set_option maxHeartbeats 2000000 in
theorem toMachine_any (vr va : Value) (m : Mc) (w : World) (hr : Sl w vr m.rom) (ha : Sl w va m.ram) (l1 : m.rom.length ≤ 4000000) (l2 : m.ram.length ≤ 4000000) :
  Calls Tryz.prog 38 #[m.val vr va] w fun e w' => ∃ v', e = .returned v' ∧ MOwn w.heap.size w' v' m ∧ Below w.heap.size w w' := by
 obtain ⟨vv, hvv⟩ : ∃ vv, vv = m.val vr va := ⟨_, rfl⟩
 rw [← hvv]
 go_enter Tryz.func38, Tryz.ntmps38
 go_wp2_with (first
  | (refine box_l rfl rfl hvv ?_; intro w0 r0 hB0; have l0 := r0.lt)
  | (have hh := hB1; refine al_mc rfl rfl ?_; intro w2 z2 hB2; have lz2 := z2.lt; have y2 := z1.below hB2; have r2 := (r0.below hB1).below hB2; have hB := (hB0.trans (hB1.mono hB0.size)).trans (hB2.mono (by have := hB0.size; have := hB1.size; omega)); have k0 := (cwl r2).vr)
  | (refine al_mc rfl rfl ?_; intro w1 z1 hB1; have lz1 := z1.lt))
 go_at_call 92
 refine (to_any vr m.rom _ (hr.below hB) l1).mono ?_
 rintro e w3 ⟨v3, rfl, ho3, hb3⟩
 have r3 := r2.below hb3
 have z3 := z2.below hb3
 have y3 := y2.below hb3
 have hB3 := hB.trans (hb3.mono hB.size)
 have ho3l := ho3.lt
 have sB := hB0.size
 have sb3 := hb3.size
 clear r2 z2 y2 k0 r0
 go_wp2_with (first
  | (refine st_rom rfl rfl rfl rfl z3 (one_own ho3) m.rom ?_; intro w4 z4 o4 s4; have r4 := r3.onto o4 (by omega); have y4 := y3.onto o4 (by omega); have k0 := (cwl r4).va))
 go_at_call 92
 have hB4 := below_onto hB3 o4 (by omega)
 refine (to_any va m.ram _ (ha.below hB4) l2).mono ?_
 rintro e w5 ⟨v5, rfl, ho5, hb5⟩
 have hB5 := hB4.trans (hb5.mono hB4.size)
 have r5 := r4.below hb5
 have z5 := z4.below hb5
 have y5 := y4.below hb5
 have ho5l := ho5.lt
 have ho35 := (ho3.onto o4 (fun e => by have := ho3l _ e; omega)).below hb5
 have sb5 := hb5.size
 have so4 := o4.size
 have hap : ∀ k, v3.ownBlock = some k → v5.ownBlock ≠ some k := fun k hk hk' => by have := ho3l k hk; have := ho5l k hk'; omega
 clear k0 r3 z3 y3 r4 z4 y4
 go_wp2_with (first
  | (refine st_ram rfl rfl rfl rfl z5 (one_own ho5) m.ram ?_; intro w6 z6 o6 s6; have r6 := r5.onto o6 (by omega); have y6 := y5.onto o6 (by omega); have t6 : Turn (fun k => k = w1.heap.size ∨ k = w0.heap.size) w5 w6 := Turn.onto o6 (.inl rfl); have f6 := (cwl r6).a)
  | (refine st_num (m' := { Mc.nul with rom := m.rom, ram := m.ram, a := m.a }) (k := 2) rfl rfl rfl rfl z6 rfl rfl ?_; intro w7 z7 o7 s7; have r7 := r6.onto o7 (by omega); have y7 := y6.onto o7 (by omega); have t7 := t6.trans (Turn.onto o7 (.inl rfl)); have f7 := (cwl r7).b)
  | (refine st_num (m' := { Mc.nul with rom := m.rom, ram := m.ram, a := m.a, b := m.b }) (k := 3) rfl rfl rfl rfl z7 rfl rfl ?_; intro w8 z8 o8 s8; have r8 := r7.onto o8 (by omega); have y8 := y7.onto o8 (by omega); have t8 := t7.trans (Turn.onto o8 (.inl rfl)); have f8 := (cwl r8).pc)
  | (refine st_num (m' := { Mc.nul with rom := m.rom, ram := m.ram, a := m.a, b := m.b, pc := m.pc }) (k := 4) rfl rfl rfl rfl z8 rfl rfl ?_; intro w9 z9 o9 s9; have r9 := r8.onto o9 (by omega); have y9 := y8.onto o9 (by omega); have t9 := t8.trans (Turn.onto o9 (.inl rfl)); have f9 := (cwl r9).sp)
  | (refine st_num (m' := { Mc.nul with rom := m.rom, ram := m.ram, a := m.a, b := m.b, pc := m.pc, sp := m.sp }) (k := 5) rfl rfl rfl rfl z9 rfl rfl ?_; intro w10 z10 o10 s10; have r10 := r9.onto o10 (by omega); have y10 := y9.onto o10 (by omega); have t10 := t9.trans (Turn.onto o10 (.inl rfl)); have f10 := (cwl r10).z)
  | (refine st_yes (m' := { Mc.nul with rom := m.rom, ram := m.ram, a := m.a, b := m.b, pc := m.pc, sp := m.sp, z := m.z }) (k := 6) rfl rfl rfl rfl z10 rfl rfl ?_; intro w11 z11 o11 s11; have r11 := r10.onto o11 (by omega); have y11 := y10.onto o11 (by omega); have t11 := t10.trans (Turn.onto o11 (.inl rfl)); have f11 := (cwl r11).c)
  | (refine st_yes (m' := { Mc.nul with rom := m.rom, ram := m.ram, a := m.a, b := m.b, pc := m.pc, sp := m.sp, z := m.z, c := m.c }) (k := 7) rfl rfl rfl rfl z11 rfl rfl ?_; intro w12 z12 o12 s12; have r12 := r11.onto o12 (by omega); have y12 := y11.onto o12 (by omega); have t12 := t11.trans (Turn.onto o12 (.inl rfl)); have f12 := (cwl r12).e)
  | (refine st_yes (m' := { Mc.nul with rom := m.rom, ram := m.ram, a := m.a, b := m.b, pc := m.pc, sp := m.sp, z := m.z, c := m.c, e := m.e }) (k := 8) rfl rfl rfl rfl z12 rfl rfl ?_; intro w13 z13 o13 s13; have r13 := r12.onto o13 (by omega); have y13 := y12.onto o13 (by omega); have t13 := t12.trans (Turn.onto o13 (.inl rfl)); have f13 := (cwl r13).h)
  | (refine st_yes (m' := { Mc.nul with rom := m.rom, ram := m.ram, a := m.a, b := m.b, pc := m.pc, sp := m.sp, z := m.z, c := m.c, e := m.e, h := m.h }) (k := 9) rfl rfl rfl rfl z13 rfl rfl ?_; intro w14 z14 o14 s14; have r14 := r13.onto o14 (by omega); have y14 := y13.onto o14 (by omega); have t14 := t13.trans (Turn.onto o14 (.inl rfl)); have f14 := (cwl r14).s)
  | (refine st_yes (m' := { Mc.nul with rom := m.rom, ram := m.ram, a := m.a, b := m.b, pc := m.pc, sp := m.sp, z := m.z, c := m.c, e := m.e, h := m.h, s := m.s }) (k := 10) rfl rfl rfl rfl z14 rfl rfl ?_; intro w15 z15 o15 s15; have r15 := r14.onto o15 (by omega); have y15 := y14.onto o15 (by omega); have t15 := t14.trans (Turn.onto o15 (.inl rfl)); have f15 := (cwl r15).fl)
  | (refine st_num (m' := { Mc.nul with rom := m.rom, ram := m.ram, a := m.a, b := m.b, pc := m.pc, sp := m.sp, z := m.z, c := m.c, e := m.e, h := m.h, s := m.s, fl := m.fl }) (k := 11) rfl rfl rfl rfl z15 rfl rfl ?_; intro w16 z16 o16 s16; have r16 := r15.onto o16 (by omega); have y16 := y15.onto o16 (by omega); have t16 := t15.trans (Turn.onto o16 (.inl rfl)); have f16 := (cwl r16).ms)
  | (refine st_num (m' := { Mc.nul with rom := m.rom, ram := m.ram, a := m.a, b := m.b, pc := m.pc, sp := m.sp, z := m.z, c := m.c, e := m.e, h := m.h, s := m.s, fl := m.fl, ms := m.ms }) (k := 12) rfl rfl rfl rfl z16 rfl rfl ?_; intro w17 z17 o17 s17; have r17 := r16.onto o17 (by omega); have y17 := y16.onto o17 (by omega); have t17 := t16.trans (Turn.onto o17 (.inl rfl)); have f17 := (cwl r17).ky)
  | (refine st_num (m' := { Mc.nul with rom := m.rom, ram := m.ram, a := m.a, b := m.b, pc := m.pc, sp := m.sp, z := m.z, c := m.c, e := m.e, h := m.h, s := m.s, fl := m.fl, ms := m.ms, ky := m.ky }) (k := 13) rfl rfl rfl rfl z17 rfl rfl ?_; intro w18 z18 o18 s18; have r18 := r17.onto o18 (by omega); have y18 := y17.onto o18 (by omega); have t18 := t17.trans (Turn.onto o18 (.inl rfl)))
  | (refine ld_lt rfl rfl rfl r18 ?_)
  | (go_at_call 93; refine (toTimer_any m.t _).mono ?_; rintro e w19 ⟨rfl, hb19⟩; have r19 := r18.below hb19; have z19 := z18.below hb19; have y19 := y18.below hb19; have t19 := t18.trans (Turn.of hb19))
  | (refine st_time' (t := m.t) rfl rfl rfl rfl z19 ?_; intro w20 z20 o20 s20; have r20 := r19.onto o20 (by omega); have y20 := y19.onto o20 (by omega); have t20 := t19.trans (Turn.onto o20 (.inl rfl)))
  | (refine ld_lp rfl rfl rfl r20 ?_)
  | (go_at_call 94; refine (toSerial_any m.p _).mono ?_; rintro e w21 ⟨rfl, hb21⟩; have r21 := r20.below hb21; have z21 := z20.below hb21; have y21 := y20.below hb21; have t21 := t20.trans (Turn.of hb21))
  | (refine st_port' (s := m.p) rfl rfl rfl rfl z21 ?_; intro w22 z22 o22 s22; have r22 := r21.onto o22 (by omega); have y22 := y21.onto o22 (by omega); have t22 := t21.trans (Turn.onto o22 (.inl rfl)); have f22 := (cwl r22).k)
  | (refine st_num (m' := m) (k := 24) rfl rfl rfl rfl z22 rfl rfl ?_; intro w23 z23 o23 s23; have y23 := y22.onto o23 (by omega); have t23 := t22.trans (Turn.onto o23 (.inl rfl)))
  | (refine ld_mc rfl rfl rfl z23 ?_)
  | (refine st_mc rfl rfl rfl rfl y23 (one_own ho3) (one_own ho5) ?_; intro w24 z24 o24 s24; have t24 := t23.trans (Turn.onto o24 (.inr rfl))))
 refine ret_mc rfl rfl z24 rfl ?_
 refine ⟨_, rfl, ⟨v3, v5, rfl, ?_, ?_, hap⟩, t24.below hB5 (fun k hk => by rcases hk with rfl | rfl <;> omega)⟩
 ·exact (t24.own ho35 (fun k hk e => by have := ho3l k hk; rcases e with rfl | rfl <;> omega)).mono (by omega)
 ·exact (t24.own ho5 (fun k hk e => by have := ho5l k hk; rcases e with rfl | rfl <;> omega)).mono (by omega)
end Go.Proofs.YtghmkacamabndaaGreatDoor.Mem
namespace Go.Proofs.YtghmkacamabndaaGreatDoor.Mem
open Go.ChangeShapes Go.WideShapes Go.RowKit Base Num Slc Rw Tmr Srl Rom RomOf

set_option maxHeartbeats 2000000 in
theorem machineOk_spec (v : Value) (m : Mc) (w : World) (hm : MSl w v m) :
  Calls Tryz.prog 55 #[v] w fun e w' => e = .returned (.bool m.ok) ∧ Below w.heap.size w w' := by
 obtain ⟨vr, va, rfl, hr, ⟨aa, ca, rfl, hia, hla, hca, hna⟩⟩ := hm
 have hml : m.ram.length ≤ maxLen := Nat.le_trans hla hca
 clear hla hca hna
 obtain ⟨cs, hv, hcs, hk⟩ := Mc.open vr (.slice aa m.ram.length ca) m
 rw [hv]
 clear hv hcs
 go_enter Tryz.func55, Tryz.ntmps55
 go_wp2_with (refine box_mc rfl rfl rfl hk ?_; intro w0 r0 hB0; obtain ⟨k0, k1, k2, k3, k4, k5, -, -, -, -, -, k11, k12, k13, k14, k15, k16, k17, k18, k19, k20, k21, k22, k23, k24⟩ := hk.at  r0)
 go_at_call 81
 refine (romOk_specS _ m.rom _ (hr.below hB0)).mono ?_
 rintro e w1 ⟨rfl, n1, hw1⟩
 have hb1 := drew_below hw1
 have r1 := r0.below hb1
 have hB : Below w.heap.size w w1 := hB0.trans (hb1.mono hB0.size)
 have hia1 := hia.below hB
 clear hw1 hb1 hia hr r0 k0 k1 k2 k3 k4 k5 k11 k12 k13 k14 k15 k16 k17 k18 k19 k20 k21 k22 k23 k24
 obtain ⟨k0, k1, k2, k3, k4, k5, -, -, -, -, -, k11, k12, k13, k14, k15, k16, k17, k18, k19, k20, k21, k22, k23, k24⟩ := hk.at  r1
 generalize h1 : romOk m.rom = q1
 cases q1
 ·go_wp2_with fail
  go_ret
  exact ⟨ret_bool (by simp [Mc.ok, h1]), hB⟩
 by_cases h2 : m.ram.length = 64
 ·have h2' : ((m.ram.length : Int) == 64) = true := by simp [h2]
  have H2 : Hid (m.ram.length = 64) := h2
  clear h2
  go_wp2_with (first
   | (go_at_call 121; refine (bytes_spec _ _ _ m.ram _ hia1 hml).mono ?_; rintro e w2 ⟨rfl, rfl⟩; generalize h3 : m.ram.all bok = r; cases r)
   | (go_at_call 122; refine (byteOk_spec _ _).mono ?_; rintro e w2 ⟨rfl, rfl⟩; generalize hb : bok _ = r; cases r)
   | (go_at_call 123; refine (in_any _ _ _ _).mono ?_; rintro e w2 ⟨rfl, rfl⟩; generalize hi : inn _ _ _ = r; cases r)
   | (go_at_call 124; refine (timerOk_spec m.t _).mono ?_; rintro e w2 ⟨rfl, hb2⟩; replace r1 := r1.below hb2; replace hB := hB.trans (hb2.mono hB.size); clear hb2 k0 k1 k2 k3 k4 k5 k11 k12 k13 k14 k15 k16 k17 k18 k19 k20 k21 k22 k23 k24; obtain ⟨k0, k1, k2, k3, k4, k5, -, -, -, -, -, k11, k12, k13, k14, k15, k16, k17, k18, k19, k20, k21, k22, k23, k24⟩ := hk.at  r1; generalize h11 : m.t.ok = r; cases r)
   | (go_at_call 125; refine (serialOk_spec m.p _).mono ?_; rintro e w2 ⟨rfl, hb2⟩; replace r1 := r1.below hb2; replace hB := hB.trans (hb2.mono hB.size); clear hb2 k0 k1 k2 k3 k4 k5 k11 k12 k13 k14 k15 k16 k17 k18 k19 k20 k21 k22 k23 k24; obtain ⟨k0, k1, k2, k3, k4, k5, -, -, -, -, -, k11, k12, k13, k14, k15, k16, k17, k18, k19, k20, k21, k22, k23, k24⟩ := hk.at  r1; generalize h12 : m.p.ok = r; cases r))
  all_goals go_ret
  all_goals exact ⟨ret_bool (by simp [Mc.ok, H2.out, *]), hB⟩
 ·have h2' : ((m.ram.length : Int) == 64) = false := by simp; omega
  go_wp2_with fail
  go_ret
  exact ⟨ret_bool (by simp [Mc.ok, h2]), hB⟩
end Go.Proofs.YtghmkacamabndaaGreatDoor.Mem
namespace Go.Proofs.YtghmkacamabndaaGreatDoor.Mem
open Go.ChangeShapes Go.WideShapes Go.RowKit Base Num Slc Rw Tmr Srl Rom RomOf

theorem flag_any (b : Bool) (w : World) :
  Calls Tryz.prog 234 #[.bool b] w fun e w' => e = .returned (.int .i64 (flag b)) ∧ w' = w := by
 cases b
 all_goals
  go_enter Tryz.func234, Tryz.ntmps234
  go_wp2
  go_ret
  exact ⟨rfl, rfl⟩
theorem flag_in (b : Bool) : 0 ≤ flag b ∧ flag b ≤ 1 := by cases b <;> simp [flag]
structure Right (m : Mc) : Prop where
 rom : 2 ≤ m.rom.length ∧ m.rom.length ≤ 128
 ram : m.ram.length = 64
 tim : 0 ≤ m.t.c ∧ m.t.c ≤ 1000000000
theorem Mc.right {m : Mc} (h : m.ok = true) : Right m := by
 obtain ⟨h1, h2, h3, h4, h5⟩ := Mc.ok_rom h
 exact ⟨romOk_len h1, h2, (Tm.ok_true h3).1⟩
set_option maxHeartbeats 2000000 in
theorem l6Read_spec (v : Value) (m : Mc) (q : Int) (w : World) (hm : MSl w v m) (hR : Right m) (hq : 0 ≤ q ∧ q ≤ 255) :
  Calls Tryz.prog 173 #[v, .int .i64 q] w fun e w' => e = .returned (.int .i64 (m.read q)) ∧ Below w.heap.size w w' := by
 obtain ⟨vr, va, rfl, ⟨ar, cr, rfl, hir, hlr, hcr, hnr⟩, ⟨aa, ca, rfl, hia, hla, hca, hna⟩⟩ := hm
 have hR1 := hR.rom
 have hR2 := hR.ram
 have hR3 := hR.tim
 unfold maxLen at hcr hca
 obtain ⟨vv, hvv⟩ : ∃ vv, m.val (.slice ar m.rom.length cr) (.slice aa m.ram.length ca) = vv := ⟨_, rfl⟩
 rw [hvv]
 clear hnr hna
 by_cases h128 : q < 128
 ·by_cases hl : q < (m.rom.length : Int)
  ·obtain ⟨k, rfl⟩ : ∃ k : Nat, q = (k : Int) := ⟨q.toNat, by omega⟩
   have e : m.read (k : Int) = m.rom.getD k 0 := by simp [Mc.read, h128, hl]
   rw [e]
   have hkl : k < m.rom.length := by omega
   rcases hir.2 with h0 | ⟨b, off, rfl, hbl, hcell⟩
   ·omega
   have hz := hcell k hkl
   generalize m.rom.getD k 0 = z at hz ⊢
   clear hcell hir hR2 e
   go_enter Tryz.func173, Tryz.ntmps173
   go_wp2_with (refine box_m rfl rfl hvv.symm ?_; intro w0 r0 hB0; have k0 := (cw r0).vr; have hz0 : w0.cell? ⟨b, off + k, none⟩ = some (.int .i64 z) := (hB0.cell (p := ⟨b, off + k, none⟩) hbl).trans hz)
   go_ret
   exact ⟨rfl, hB0⟩
  ·have e : m.read q = 255 := by simp [Mc.read, h128, hl]
   rw [e]
   clear hR2
   go_enter Tryz.func173, Tryz.ntmps173
   go_wp2_with (refine box_m rfl rfl hvv.symm ?_; intro w0 r0 hB0; have k0 := (cw r0).vr)
   go_ret
   exact ⟨rfl, hB0⟩
 by_cases h192 : q < 192
 ·obtain ⟨k, rfl⟩ : ∃ k : Nat, q = 128 + (k : Int) := ⟨(q - 128).toNat, by omega⟩
  have e : m.read (128 + (k : Int)) = m.ram.getD k 0 := by
   have h1 : ¬ (128 + (k : Int)) < 128 := h128
   have h2 : (128 + (k : Int) - 128).toNat = k := by omega
   simp only [Mc.read, h1, h192, if_true, if_false, h2]
  rw [e]
  have hkl : k < m.ram.length := by omega
  rcases hia.2 with h0 | ⟨b, off, rfl, hbl, hcell⟩
  ·omega
  have hz := hcell k hkl
  have hs : 128 + (k : Int) - 128 = (k : Int) := by omega
  generalize m.ram.getD k 0 = z at hz ⊢
  clear hcell hir e hR2 hia
  go_enter Tryz.func173, Tryz.ntmps173
  go_wp2_with (refine box_m rfl rfl hvv.symm ?_; intro w0 r0 hB0; have k0 := (cw r0).va; have hz0 : w0.cell? ⟨b, off + k, none⟩ = some (.int .i64 z) := (hB0.cell (p := ⟨b, off + k, none⟩) hbl).trans hz)
  go_ret
  exact ⟨rfl, hB0⟩
 clear hR2
 by_cases h0 : q = 240
 ·subst h0
  go_enter Tryz.func173, Tryz.ntmps173
  go_wp2_with (refine box_m rfl rfl hvv.symm ?_; intro w0 r0 hB0; have k0 := (cw r0).pd)
  go_ret
  exact ⟨rfl, hB0⟩
 by_cases h1 : q = 241
 ·subst h1
  have hf1 := flag_in m.p.b
  have hf2 := flag_in m.p.l
  go_enter Tryz.func173, Tryz.ntmps173
  go_wp2_with (refine box_m rfl rfl hvv.symm ?_; intro w0 r0 hB0; have k0 := (cw r0).pb; have k1 := (cw r0).pl)
  go_quiet ((go_at_call 234; refine Calls.quiet_of_same (flag_any _ _)))
  go_wp2
  go_ret
  exact ⟨rfl, below_drewN hB0 _⟩
 by_cases h2 : q = 242
 ·subst h2
  have q1 := quo_pos' (a := m.t.c) (r := 16) hR3.1
  have q2 := rem_pos' (a := m.t.c / 16) (r := 256) (by omega)
  go_enter Tryz.func173, Tryz.ntmps173
  go_wp2_with (refine box_m rfl rfl hvv.symm ?_; intro w0 r0 hB0; have k0 := (cw r0).tc)
  go_ret
  exact ⟨rfl, hB0⟩
 by_cases h3 : q = 243
 ·subst h3
  go_enter Tryz.func173, Tryz.ntmps173
  go_wp2_with (refine box_m rfl rfl hvv.symm ?_; intro w0 r0 hB0; have k0 := (cw r0).tv)
  go_ret
  exact ⟨rfl, hB0⟩
 by_cases h4 : q = 244
 ·subst h4
  go_enter Tryz.func173, Tryz.ntmps173
  go_wp2_with (refine box_m rfl rfl hvv.symm ?_; intro w0 r0 hB0; have k0 := (cw r0).ts)
  go_ret
  exact ⟨rfl, hB0⟩
 by_cases h5 : q = 245
 ·subst h5
  go_enter Tryz.func173, Tryz.ntmps173
  go_wp2_with (refine box_m rfl rfl hvv.symm ?_; intro w0 r0 hB0; have k0 := (cw r0).tm)
  go_ret
  exact ⟨rfl, hB0⟩
 by_cases h6 : q = 246
 ·subst h6
  go_enter Tryz.func173, Tryz.ntmps173
  go_wp2_with (refine box_m rfl rfl hvv.symm ?_; intro w0 r0 hB0; have k0 := (cw r0).fl)
  go_ret
  exact ⟨rfl, hB0⟩
 by_cases h7 : q = 247
 ·subst h7
  go_enter Tryz.func173, Tryz.ntmps173
  go_wp2_with (refine box_m rfl rfl hvv.symm ?_; intro w0 r0 hB0; have k0 := (cw r0).ms)
  go_ret
  exact ⟨rfl, hB0⟩
 by_cases h8 : q = 248
 ·subst h8
  go_enter Tryz.func173, Tryz.ntmps173
  go_wp2_with (refine box_m rfl rfl hvv.symm ?_; intro w0 r0 hB0; have k0 := (cw r0).ky)
  go_ret
  exact ⟨rfl, hB0⟩
 have e : m.read q = 255 := by simp [Mc.read, h128, h192, h0, h1, h2, h3, h4, h5, h6, h7, h8]
 rw [e]
 go_enter Tryz.func173, Tryz.ntmps173
 go_wp2_with (refine box_m rfl rfl hvv.symm ?_; intro w0 r0 hB0)
 go_ret
 exact ⟨rfl, hB0⟩
end Go.Proofs.YtghmkacamabndaaGreatDoor.Mem
namespace Go.Proofs.YtghmkacamabndaaGreatDoor.Mem
open Go.ChangeShapes Go.WideShapes Go.RowKit Base Num Slc Rw Tmr Srl Rom RomOf

set_option maxHeartbeats 2000000 in
theorem machineOk_impl (v : Value) (m : Mc) (w : World) (hm : MSl w v m) :
  Calls Tryz.prog 20 #[v] w fun e w' => e = .returned (.bool m.ok) ∧ Below w.heap.size w w' := by
 obtain ⟨vr, va, rfl, hr, ⟨aa, ca, rfl, hia, hla, hca, hna⟩⟩ := hm
 have hml : m.ram.length ≤ maxLen := Nat.le_trans hla hca
 clear hla hca hna
 obtain ⟨cs, hv, hcs, hk⟩ := Mc.open vr (.slice aa m.ram.length ca) m
 rw [hv]
 clear hv hcs
 go_enter Tryz.func20, Tryz.ntmps20
 go_wp2_with (refine box_mc rfl rfl rfl hk ?_; intro w0 r0 hB0; obtain ⟨k0, k1, k2, k3, k4, k5, -, -, -, -, -, k11, k12, k13, k14, k15, k16, k17, k18, k19, k20, k21, k22, k23, k24⟩ := hk.at  r0)
 go_at_call 73
 refine (romOk_implS _ m.rom _ (hr.below hB0)).mono ?_
 rintro e w1 ⟨rfl, n1, hw1⟩
 have hb1 := drew_below hw1
 have r1 := r0.below hb1
 have hB : Below w.heap.size w w1 := hB0.trans (hb1.mono hB0.size)
 have hia1 := hia.below hB
 clear hw1 hb1 hia hr r0 k0 k1 k2 k3 k4 k5 k11 k12 k13 k14 k15 k16 k17 k18 k19 k20 k21 k22 k23 k24
 obtain ⟨k0, k1, k2, k3, k4, k5, -, -, -, -, -, k11, k12, k13, k14, k15, k16, k17, k18, k19, k20, k21, k22, k23, k24⟩ := hk.at  r1
 generalize h1 : romOk m.rom = q1
 cases q1
 ·go_wp2_with fail
  go_ret
  exact ⟨ret_bool (by simp [Mc.ok, h1]), hB⟩
 by_cases h2 : m.ram.length = 64
 ·have h2' : ((m.ram.length : Int) == 64) = true := by simp [h2]
  have H2 : Hid (m.ram.length = 64) := h2
  clear h2
  go_wp2_with (first
   | (go_at_call 74; refine (bytes_impl _ _ _ m.ram _ hia1 hml).mono ?_; rintro e w2 ⟨rfl, rfl⟩; generalize h3 : m.ram.all bok = r; cases r)
   | (go_at_call 75; refine (byteOk_impl _ _).mono ?_; rintro e w2 ⟨rfl, rfl⟩; generalize hb : bok _ = r; cases r)
   | (go_at_call 76; refine (flagsOk_impl _ _).mono ?_; rintro e w2 ⟨rfl, rfl⟩; generalize hi : inn _ _ _ = r; cases r)
   | (go_at_call 77; refine (timerOk_impl m.t _).mono ?_; rintro e w2 ⟨rfl, hb2⟩; replace r1 := r1.below hb2; replace hB := hB.trans (hb2.mono hB.size); clear hb2 k0 k1 k2 k3 k4 k5 k11 k12 k13 k14 k15 k16 k17 k18 k19 k20 k21 k22 k23 k24; obtain ⟨k0, k1, k2, k3, k4, k5, -, -, -, -, -, k11, k12, k13, k14, k15, k16, k17, k18, k19, k20, k21, k22, k23, k24⟩ := hk.at  r1; generalize h11 : m.t.ok = r; cases r)
   | (go_at_call 78; refine (serialOk_impl m.p _).mono ?_; rintro e w2 ⟨rfl, hb2⟩; replace r1 := r1.below hb2; replace hB := hB.trans (hb2.mono hB.size); clear hb2 k0 k1 k2 k3 k4 k5 k11 k12 k13 k14 k15 k16 k17 k18 k19 k20 k21 k22 k23 k24; obtain ⟨k0, k1, k2, k3, k4, k5, -, -, -, -, -, k11, k12, k13, k14, k15, k16, k17, k18, k19, k20, k21, k22, k23, k24⟩ := hk.at  r1; generalize h12 : m.p.ok = r; cases r))
  all_goals go_ret
  all_goals exact ⟨ret_bool (by simp [Mc.ok, H2.out, *]), hB⟩
 ·have h2' : ((m.ram.length : Int) == 64) = false := by simp; omega
  go_wp2_with fail
  go_ret
  exact ⟨ret_bool (by simp [Mc.ok, h2]), hB⟩
end Go.Proofs.YtghmkacamabndaaGreatDoor.Mem
namespace Go.Proofs.YtghmkacamabndaaGreatDoor.Mem
open Go.ChangeShapes Go.WideShapes Go.RowKit Base Num Slc Rw Tmr Srl Rom RomOf Mp Reg

def cable (s : Sr) : Int := 128 * flag s.b + flag s.l
def Mc.port (m : Mc) (q : Int) : Option Int :=
 if q = 240 then some m.p.d else if q = 241 then some (cable m.p) else if q = 242 then some (m.t.c / 16 % 256) else if q = 243 then some m.t.v else if q = 244 then some m.t.s
 else if q = 245 then some m.t.m else if q = 246 then some m.fl else if q = 247 then some m.ms else if q = 248 then some m.ky else none
def PortsAt (w : World) (b : Nat) (f : Int → Option Int) : Prop := ∃ L, MapAt w b L ∧ (L.map Prod.fst).Nodup ∧ ∀ x, mget L x = f x
theorem cableTold_impl (s : Sr) (w : World) :
  Calls Tryz.prog 244 #[s.val] w fun e w' => e = .returned (.int .i64 (cable s)) ∧ Below w.heap.size w w' := by
 obtain ⟨d, b, l, n, x, t⟩ := s
 show Calls Tryz.prog 244 #[.agg #[.int .i64 d, .bool b, .bool l, .int .i64 n, .int .i64 x, .bool t]] w _
 cases b <;> cases l
 all_goals
  go_enter Tryz.func244, Tryz.ntmps244
  go_wp2
  go_ret
  exact ⟨rfl, (Below.refl _ _).alloc (Nat.le_refl _) _⟩
theorem und_map : Tryz.prog.underlying 186 = some (.map 2 2) := Tryz.underlying186
structure Gm (w : World) (cs : Array Value) (W : World) : Prop where
 row : Row W w.heap.size cs 30
 bel : Below w.heap.size w W
theorem Gm.below {w W W' : World} {cs : Array Value} (h : Gm w cs W) (hb : Below W.heap.size W W') : Gm w cs W' := ⟨h.row.below hb, below_more h.bel hb⟩
theorem Gm.onto {w W W' : World} {cs : Array Value} {b : Nat} (h : Gm w cs W) (ho : Onto b W W') (hb : w.heap.size < b) : Gm w cs W' := ⟨h.row.onto ho (by omega), below_onto h.bel ho (by omega)⟩
theorem Gm.drew {w W : World} {cs : Array Value} (h : Gm w cs W) : Gm w cs W.drew := ⟨h.row.drewN 1, h.bel.drew⟩
set_option maxRecDepth 100000 in
set_option maxHeartbeats 4000000 in
theorem portsOf_impl (v : Value) (m : Mc) (w : World) (hm : MSl w v m) (h0 : 0 ≤ m.t.c) (h1 : m.t.c ≤ 1000000000) :
  Calls Tryz.prog 186 #[v] w fun e w' => ∃ b, e = .returned (.map (some b)) ∧ w.heap.size ≤ b ∧ PortsAt w' b m.port ∧ Below w.heap.size w w' := by
 obtain ⟨vr, va, rfl, hr, ha⟩ := hm
 obtain ⟨cs, hv, hcs, hk⟩ := Mc.open vr va m
 rw [hv]
 clear hv hcs
 go_enter Tryz.func186, Tryz.ntmps186
 go_wp2_with (refine box_mc rfl rfl rfl hk ?_; intro w0 r0 hB0)
 have hG : Gm w cs w0 := ⟨r0, hB0⟩
 clear r0 hB0 hr ha
 obtain ⟨l, hl⟩ : ∃ l : List Tk, l = [.new, .val 4 (.pointer (some ⟨w.heap.size, 18, none⟩)), .val 5 (.pointer (some ⟨w.heap.size, 18, none⟩)), .val 6 (.int .i64 (m.p.d)), .ins 240 (m.p.d), .val 7 (.pointer (some ⟨w.heap.size, 18, none⟩)), .val 8 (m.p.val), .val 9 (.int .i64 (cable m.p)), .ins 241 (cable m.p), .val 10 (.pointer (some ⟨w.heap.size, 14, none⟩)), .val 11 (.pointer (some ⟨w.heap.size, 14, none⟩)), .val 12 (.int .i64 (m.t.c)), .val 13 (.int .i64 (m.t.c / 16)), .val 14 (.int .i64 (m.t.c / 16 % 256)), .ins 242 (m.t.c / 16 % 256), .val 15 (.pointer (some ⟨w.heap.size, 14, none⟩)), .val 16 (.pointer (some ⟨w.heap.size, 15, none⟩)), .val 17 (.int .i64 (m.t.v)), .ins 243 (m.t.v), .val 18 (.pointer (some ⟨w.heap.size, 14, none⟩)), .val 19 (.pointer (some ⟨w.heap.size, 16, none⟩)), .val 20 (.int .i64 (m.t.s)), .ins 244 (m.t.s), .val 21 (.pointer (some ⟨w.heap.size, 14, none⟩)), .val 22 (.pointer (some ⟨w.heap.size, 17, none⟩)), .val 23 (.int .i64 (m.t.m)), .ins 245 (m.t.m), .val 24 (.pointer (some ⟨w.heap.size, 11, none⟩)), .val 25 (.int .i64 (m.fl)), .ins 246 (m.fl), .val 26 (.pointer (some ⟨w.heap.size, 12, none⟩)), .val 27 (.int .i64 (m.ms)), .ins 247 (m.ms), .val 28 (.pointer (some ⟨w.heap.size, 13, none⟩)), .val 29 (.int .i64 (m.ky)), .ins 248 (m.ky), .same 30 3, .same 2 30] := ⟨_, rfl⟩
 have hks : l.map Tk.key = [-1, -1, -1, -1, 240, -1, -1, -1, 241, -1, -1, -1, -1, -1, 242, -1, -1, -1, 243, -1, -1, -1, 244, -1, -1, -1, 245, -1, -1, 246, -1, -1, 247, -1, -1, 248, -1, -1] := by rw [hl]; rfl
 refine region_gen (by kernel_rfl) (by kernel_rfl) (fun W => Gm w cs W) (told w.heap.size l) (fun i => Rq (([-1, -1, -1, -1, 240, -1, -1, -1, 241, -1, -1, -1, -1, -1, 242, -1, -1, -1, 243, -1, -1, -1, 244, -1, -1, -1, 245, -1, -1, 246, -1, -1, 247, -1, -1, 248, -1, -1] : List Int).getD i (-1))) ?mono hG.drew ?step ?done
 case mono =>
  refine told_mono hks (by decide +kernel) ?_ ?_ (by rw [hl]; rfl)
  ·rw [hl]; kernel_rfl
  ·intro q x hx
   rw [hl] at hx
   simp only [Tk.val, Tk.new, Tk.ins, Tk.same, List.mem_cons, List.not_mem_nil, or_false, reduceCtorEq, false_or, Sum.inr.injEq, Sum.inl.injEq, Prod.mk.injEq] at hx
   omega
 case step =>
  intro L ix o A W hi hI hL hd
  have hin : ix < 38 := by
   by_cases hl : ix < 38
   ·exact hl
   ·simp [hl] at hi
  have hsz : A.tmps.size = 31 := hI.size
  have hg := hI.g
  have ck := hk.at hg.row
  have q0 : ∀ f W, told w.heap.size l 0 f W ↔ Tk.says w.heap.size f W (.new) := fun f W => by rw [hl]; exact Iff.rfl
  have q1 : ∀ f W, told w.heap.size l 1 f W ↔ Tk.says w.heap.size f W (.val 4 (.pointer (some ⟨w.heap.size, 18, none⟩))) := fun f W => by rw [hl]; exact Iff.rfl
  have q2 : ∀ f W, told w.heap.size l 2 f W ↔ Tk.says w.heap.size f W (.val 5 (.pointer (some ⟨w.heap.size, 18, none⟩))) := fun f W => by rw [hl]; exact Iff.rfl
  have q3 : ∀ f W, told w.heap.size l 3 f W ↔ Tk.says w.heap.size f W (.val 6 (.int .i64 (m.p.d))) := fun f W => by rw [hl]; exact Iff.rfl
  have q4 : ∀ f W, told w.heap.size l 4 f W ↔ Tk.says w.heap.size f W (.ins 240 (m.p.d)) := fun f W => by rw [hl]; exact Iff.rfl
  have q5 : ∀ f W, told w.heap.size l 5 f W ↔ Tk.says w.heap.size f W (.val 7 (.pointer (some ⟨w.heap.size, 18, none⟩))) := fun f W => by rw [hl]; exact Iff.rfl
  have q6 : ∀ f W, told w.heap.size l 6 f W ↔ Tk.says w.heap.size f W (.val 8 (m.p.val)) := fun f W => by rw [hl]; exact Iff.rfl
  have q7 : ∀ f W, told w.heap.size l 7 f W ↔ Tk.says w.heap.size f W (.val 9 (.int .i64 (cable m.p))) := fun f W => by rw [hl]; exact Iff.rfl
  have q8 : ∀ f W, told w.heap.size l 8 f W ↔ Tk.says w.heap.size f W (.ins 241 (cable m.p)) := fun f W => by rw [hl]; exact Iff.rfl
  have q9 : ∀ f W, told w.heap.size l 9 f W ↔ Tk.says w.heap.size f W (.val 10 (.pointer (some ⟨w.heap.size, 14, none⟩))) := fun f W => by rw [hl]; exact Iff.rfl
  have q10 : ∀ f W, told w.heap.size l 10 f W ↔ Tk.says w.heap.size f W (.val 11 (.pointer (some ⟨w.heap.size, 14, none⟩))) := fun f W => by rw [hl]; exact Iff.rfl
  have q11 : ∀ f W, told w.heap.size l 11 f W ↔ Tk.says w.heap.size f W (.val 12 (.int .i64 (m.t.c))) := fun f W => by rw [hl]; exact Iff.rfl
  have q12 : ∀ f W, told w.heap.size l 12 f W ↔ Tk.says w.heap.size f W (.val 13 (.int .i64 (m.t.c / 16))) := fun f W => by rw [hl]; exact Iff.rfl
  have q13 : ∀ f W, told w.heap.size l 13 f W ↔ Tk.says w.heap.size f W (.val 14 (.int .i64 (m.t.c / 16 % 256))) := fun f W => by rw [hl]; exact Iff.rfl
  have q14 : ∀ f W, told w.heap.size l 14 f W ↔ Tk.says w.heap.size f W (.ins 242 (m.t.c / 16 % 256)) := fun f W => by rw [hl]; exact Iff.rfl
  have q15 : ∀ f W, told w.heap.size l 15 f W ↔ Tk.says w.heap.size f W (.val 15 (.pointer (some ⟨w.heap.size, 14, none⟩))) := fun f W => by rw [hl]; exact Iff.rfl
  have q16 : ∀ f W, told w.heap.size l 16 f W ↔ Tk.says w.heap.size f W (.val 16 (.pointer (some ⟨w.heap.size, 15, none⟩))) := fun f W => by rw [hl]; exact Iff.rfl
  have q17 : ∀ f W, told w.heap.size l 17 f W ↔ Tk.says w.heap.size f W (.val 17 (.int .i64 (m.t.v))) := fun f W => by rw [hl]; exact Iff.rfl
  have q18 : ∀ f W, told w.heap.size l 18 f W ↔ Tk.says w.heap.size f W (.ins 243 (m.t.v)) := fun f W => by rw [hl]; exact Iff.rfl
  have q19 : ∀ f W, told w.heap.size l 19 f W ↔ Tk.says w.heap.size f W (.val 18 (.pointer (some ⟨w.heap.size, 14, none⟩))) := fun f W => by rw [hl]; exact Iff.rfl
  have q20 : ∀ f W, told w.heap.size l 20 f W ↔ Tk.says w.heap.size f W (.val 19 (.pointer (some ⟨w.heap.size, 16, none⟩))) := fun f W => by rw [hl]; exact Iff.rfl
  have q21 : ∀ f W, told w.heap.size l 21 f W ↔ Tk.says w.heap.size f W (.val 20 (.int .i64 (m.t.s))) := fun f W => by rw [hl]; exact Iff.rfl
  have q22 : ∀ f W, told w.heap.size l 22 f W ↔ Tk.says w.heap.size f W (.ins 244 (m.t.s)) := fun f W => by rw [hl]; exact Iff.rfl
  have q23 : ∀ f W, told w.heap.size l 23 f W ↔ Tk.says w.heap.size f W (.val 21 (.pointer (some ⟨w.heap.size, 14, none⟩))) := fun f W => by rw [hl]; exact Iff.rfl
  have q24 : ∀ f W, told w.heap.size l 24 f W ↔ Tk.says w.heap.size f W (.val 22 (.pointer (some ⟨w.heap.size, 17, none⟩))) := fun f W => by rw [hl]; exact Iff.rfl
  have q25 : ∀ f W, told w.heap.size l 25 f W ↔ Tk.says w.heap.size f W (.val 23 (.int .i64 (m.t.m))) := fun f W => by rw [hl]; exact Iff.rfl
  have q26 : ∀ f W, told w.heap.size l 26 f W ↔ Tk.says w.heap.size f W (.ins 245 (m.t.m)) := fun f W => by rw [hl]; exact Iff.rfl
  have q27 : ∀ f W, told w.heap.size l 27 f W ↔ Tk.says w.heap.size f W (.val 24 (.pointer (some ⟨w.heap.size, 11, none⟩))) := fun f W => by rw [hl]; exact Iff.rfl
  have q28 : ∀ f W, told w.heap.size l 28 f W ↔ Tk.says w.heap.size f W (.val 25 (.int .i64 (m.fl))) := fun f W => by rw [hl]; exact Iff.rfl
  have q29 : ∀ f W, told w.heap.size l 29 f W ↔ Tk.says w.heap.size f W (.ins 246 (m.fl)) := fun f W => by rw [hl]; exact Iff.rfl
  have q30 : ∀ f W, told w.heap.size l 30 f W ↔ Tk.says w.heap.size f W (.val 26 (.pointer (some ⟨w.heap.size, 12, none⟩))) := fun f W => by rw [hl]; exact Iff.rfl
  have q31 : ∀ f W, told w.heap.size l 31 f W ↔ Tk.says w.heap.size f W (.val 27 (.int .i64 (m.ms))) := fun f W => by rw [hl]; exact Iff.rfl
  have q32 : ∀ f W, told w.heap.size l 32 f W ↔ Tk.says w.heap.size f W (.ins 247 (m.ms)) := fun f W => by rw [hl]; exact Iff.rfl
  have q33 : ∀ f W, told w.heap.size l 33 f W ↔ Tk.says w.heap.size f W (.val 28 (.pointer (some ⟨w.heap.size, 13, none⟩))) := fun f W => by rw [hl]; exact Iff.rfl
  have q34 : ∀ f W, told w.heap.size l 34 f W ↔ Tk.says w.heap.size f W (.val 29 (.int .i64 (m.ky))) := fun f W => by rw [hl]; exact Iff.rfl
  have q35 : ∀ f W, told w.heap.size l 35 f W ↔ Tk.says w.heap.size f W (.ins 248 (m.ky)) := fun f W => by rw [hl]; exact Iff.rfl
  have q36 : ∀ f W, told w.heap.size l 36 f W ↔ Tk.says w.heap.size f W (.same 30 3) := fun f W => by rw [hl]; exact Iff.rfl
  have q37 : ∀ f W, told w.heap.size l 37 f W ↔ Tk.says w.heap.size f W (.same 2 30) := fun f W => by rw [hl]; exact Iff.rfl
  rcases ix with _ | _ | _ | _ | _ | _ | _ | _ | _ | _ | _ | _ | _ | _ | _ | _ | _ | _ | _ | _ | _ | _ | _ | _ | _ | _ | _ | _ | _ | _ | _ | _ | _ | _ | _ | _ | _ | _ | ix
  ·cases hi
   exact at_op rfl rfl (makeMap_op rfl ⟨_, rfl, (q0 _ _).2 ⟨_, [], getD_put_same _ _ _ (by omega), hg.row.lt, MapAt.new _, Nice.nil⟩, hg.below ((Below.refl _ _).alloc (Nat.le_refl _) _), Rq.below ((Below.refl _ _).alloc (Nat.le_refl _) _)⟩)
  ·cases hi
   have e : A.eval (.tmp 1) = .pointer (some ⟨w.heap.size, 0, none⟩) := hI.old 1 (by kernel_rfl)
   refine at_op rfl rfl (val_op (v := .pointer (some ⟨w.heap.size, 18, none⟩)) ?_ ⟨_, rfl, (q1 _ _).2 (getD_put_same _ _ _ (by omega)), hg, Rq.refl _ _⟩)
   unfold execOp
   simp only [List.getElem_toArray, List.getElem_cons_zero, List.getElem_cons_succ, e]
   simp [go_sem]
  ·cases hi
   have e : A.eval (.tmp 4) = .pointer (some ⟨w.heap.size, 18, none⟩) := (q1 _ _).1 (hI.get hd 1 rfl (by kernel_rfl))
   refine at_op rfl rfl (val_op (v := .pointer (some ⟨w.heap.size, 18, none⟩)) ?_ ⟨_, rfl, (q2 _ _).2 (getD_put_same _ _ _ (by omega)), hg, Rq.refl _ _⟩)
   unfold execOp
   simp only [List.getElem_toArray, List.getElem_cons_zero, List.getElem_cons_succ, e]
   simp [go_sem]
  ·cases hi
   have e : A.eval (.tmp 5) = .pointer (some ⟨w.heap.size, 18, none⟩) := (q2 _ _).1 (hI.get hd 2 rfl (by kernel_rfl))
   exact at_op rfl rfl (load_op rfl Tryz.underlying2 e ck.pd ⟨_, rfl, (q3 _ _).2 (getD_put_same _ _ _ (by omega)), hg, Rq.refl _ _⟩)
  ·cases hi
   obtain ⟨b, LL, e3, hb, hM, hN⟩ := (q0 _ _).1 (hI.get hd 0 rfl (by kernel_rfl))
   have e : A.eval (.tmp 6) = .int .i64 (m.p.d) := (q3 _ _).1 (hI.get hd 3 rfl (by kernel_rfl))
   refine at_op rfl rfl (insert_op rfl und_map Tryz.underlying2 e3 rfl e hM ?_)
   intro W' hM' ho'
   exact ⟨_, rfl, (q4 _ _).2 ⟨b, _, e3, hM', hN.put _ (by omega), by rw [mget_mput]; simp⟩, hg.onto ho' hb, Rq.put (q := 240) hM hM' ho' (by omega)⟩
  ·cases hi
   have e : A.eval (.tmp 1) = .pointer (some ⟨w.heap.size, 0, none⟩) := hI.old 1 (by kernel_rfl)
   refine at_op rfl rfl (val_op (v := .pointer (some ⟨w.heap.size, 18, none⟩)) ?_ ⟨_, rfl, (q5 _ _).2 (getD_put_same _ _ _ (by omega)), hg, Rq.refl _ _⟩)
   unfold execOp
   simp only [List.getElem_toArray, List.getElem_cons_zero, List.getElem_cons_succ, e]
   simp [go_sem]
  ·cases hi
   have e : A.eval (.tmp 7) = .pointer (some ⟨w.heap.size, 18, none⟩) := (q5 _ _).1 (hI.get hd 5 rfl (by kernel_rfl))
   exact at_op rfl rfl (lw_in (cs' := #[.int .i64 m.p.d, .bool m.p.b, .bool m.p.l, .int .i64 m.p.n, .int .i64 m.p.x, .bool m.p.t]) rfl e hg.row Tryz.underlying28 rfl hk.ser (by kernel_rfl) ⟨_, rfl, (q6 _ _).2 (getD_put_same _ _ _ (by omega)), hg, Rq.refl _ _⟩)
  ·cases hi
   have e0 : A.eval (.tmp 8) = m.p.val := (q6 _ _).1 (hI.get hd 6 rfl (by kernel_rfl))
   refine at_op rfl rfl (call_op rfl Tryz.func244 (by kernel_rfl) (by kernel_rfl) ?_)
   simp only [List.map_cons, List.map_nil, e0]
   refine (cableTold_impl m.p W).mono ?_
   rintro e w5 ⟨rfl, hb5⟩
   exact ⟨_, rfl, _, rfl, (q7 _ _).2 (getD_put_same _ _ _ (by omega)), hg.below hb5, Rq.below hb5⟩
  ·cases hi
   obtain ⟨b, LL, e3, hb, hM, hN⟩ := (q0 _ _).1 (hI.get hd 0 rfl (by kernel_rfl))
   have e : A.eval (.tmp 9) = .int .i64 (cable m.p) := (q7 _ _).1 (hI.get hd 7 rfl (by kernel_rfl))
   refine at_op rfl rfl (insert_op rfl und_map Tryz.underlying2 e3 rfl e hM ?_)
   intro W' hM' ho'
   exact ⟨_, rfl, (q8 _ _).2 ⟨b, _, e3, hM', hN.put _ (by omega), by rw [mget_mput]; simp⟩, hg.onto ho' hb, Rq.put (q := 241) hM hM' ho' (by omega)⟩
  ·cases hi
   have e : A.eval (.tmp 1) = .pointer (some ⟨w.heap.size, 0, none⟩) := hI.old 1 (by kernel_rfl)
   refine at_op rfl rfl (val_op (v := .pointer (some ⟨w.heap.size, 14, none⟩)) ?_ ⟨_, rfl, (q9 _ _).2 (getD_put_same _ _ _ (by omega)), hg, Rq.refl _ _⟩)
   unfold execOp
   simp only [List.getElem_toArray, List.getElem_cons_zero, List.getElem_cons_succ, e]
   simp [go_sem]
  ·cases hi
   have e : A.eval (.tmp 10) = .pointer (some ⟨w.heap.size, 14, none⟩) := (q9 _ _).1 (hI.get hd 9 rfl (by kernel_rfl))
   refine at_op rfl rfl (val_op (v := .pointer (some ⟨w.heap.size, 14, none⟩)) ?_ ⟨_, rfl, (q10 _ _).2 (getD_put_same _ _ _ (by omega)), hg, Rq.refl _ _⟩)
   unfold execOp
   simp only [List.getElem_toArray, List.getElem_cons_zero, List.getElem_cons_succ, e]
   simp [go_sem]
  ·cases hi
   have e : A.eval (.tmp 11) = .pointer (some ⟨w.heap.size, 14, none⟩) := (q10 _ _).1 (hI.get hd 10 rfl (by kernel_rfl))
   exact at_op rfl rfl (load_op rfl Tryz.underlying2 e ck.tc ⟨_, rfl, (q11 _ _).2 (getD_put_same _ _ _ (by omega)), hg, Rq.refl _ _⟩)
  ·cases hi
   have e1 : A.eval (.tmp 12) = .int .i64 (m.t.c) := (q11 _ _).1 (hI.get hd 11 rfl (by kernel_rfl))
   have hq : Int.tdiv (m.t.c) 16 = (m.t.c) / 16 := Int.tdiv_eq_ediv_of_nonneg (by omega)
   exact at_op rfl rfl (bin_op (vy := .int .i64 16) rfl e1 rfl (fun w => by simp [go_sem, hq]; simp [IntKind.wrap, IntKind.bits, IntKind.signed]; omega) ⟨_, rfl, (q12 _ _).2 (getD_put_same _ _ _ (by omega)), hg, Rq.refl _ _⟩)
  ·cases hi
   have e1 : A.eval (.tmp 13) = .int .i64 (m.t.c / 16) := (q12 _ _).1 (hI.get hd 12 rfl (by kernel_rfl))
   have hq : Int.tmod (m.t.c / 16) 256 = (m.t.c / 16) % 256 := Int.tmod_eq_emod_of_nonneg (by omega)
   exact at_op rfl rfl (bin_op (vy := .int .i64 256) rfl e1 rfl (fun w => by simp [go_sem, hq]) ⟨_, rfl, (q13 _ _).2 (getD_put_same _ _ _ (by omega)), hg, Rq.refl _ _⟩)
  ·cases hi
   obtain ⟨b, LL, e3, hb, hM, hN⟩ := (q0 _ _).1 (hI.get hd 0 rfl (by kernel_rfl))
   have e : A.eval (.tmp 14) = .int .i64 (m.t.c / 16 % 256) := (q13 _ _).1 (hI.get hd 13 rfl (by kernel_rfl))
   refine at_op rfl rfl (insert_op rfl und_map Tryz.underlying2 e3 rfl e hM ?_)
   intro W' hM' ho'
   exact ⟨_, rfl, (q14 _ _).2 ⟨b, _, e3, hM', hN.put _ (by omega), by rw [mget_mput]; simp⟩, hg.onto ho' hb, Rq.put (q := 242) hM hM' ho' (by omega)⟩
  ·cases hi
   have e : A.eval (.tmp 1) = .pointer (some ⟨w.heap.size, 0, none⟩) := hI.old 1 (by kernel_rfl)
   refine at_op rfl rfl (val_op (v := .pointer (some ⟨w.heap.size, 14, none⟩)) ?_ ⟨_, rfl, (q15 _ _).2 (getD_put_same _ _ _ (by omega)), hg, Rq.refl _ _⟩)
   unfold execOp
   simp only [List.getElem_toArray, List.getElem_cons_zero, List.getElem_cons_succ, e]
   simp [go_sem]
  ·cases hi
   have e : A.eval (.tmp 15) = .pointer (some ⟨w.heap.size, 14, none⟩) := (q15 _ _).1 (hI.get hd 15 rfl (by kernel_rfl))
   refine at_op rfl rfl (val_op (v := .pointer (some ⟨w.heap.size, 15, none⟩)) ?_ ⟨_, rfl, (q16 _ _).2 (getD_put_same _ _ _ (by omega)), hg, Rq.refl _ _⟩)
   unfold execOp
   simp only [List.getElem_toArray, List.getElem_cons_zero, List.getElem_cons_succ, e]
   simp [go_sem]
  ·cases hi
   have e : A.eval (.tmp 16) = .pointer (some ⟨w.heap.size, 15, none⟩) := (q16 _ _).1 (hI.get hd 16 rfl (by kernel_rfl))
   exact at_op rfl rfl (load_op rfl Tryz.underlying2 e ck.tv ⟨_, rfl, (q17 _ _).2 (getD_put_same _ _ _ (by omega)), hg, Rq.refl _ _⟩)
  ·cases hi
   obtain ⟨b, LL, e3, hb, hM, hN⟩ := (q0 _ _).1 (hI.get hd 0 rfl (by kernel_rfl))
   have e : A.eval (.tmp 17) = .int .i64 (m.t.v) := (q17 _ _).1 (hI.get hd 17 rfl (by kernel_rfl))
   refine at_op rfl rfl (insert_op rfl und_map Tryz.underlying2 e3 rfl e hM ?_)
   intro W' hM' ho'
   exact ⟨_, rfl, (q18 _ _).2 ⟨b, _, e3, hM', hN.put _ (by omega), by rw [mget_mput]; simp⟩, hg.onto ho' hb, Rq.put (q := 243) hM hM' ho' (by omega)⟩
  ·cases hi
   have e : A.eval (.tmp 1) = .pointer (some ⟨w.heap.size, 0, none⟩) := hI.old 1 (by kernel_rfl)
   refine at_op rfl rfl (val_op (v := .pointer (some ⟨w.heap.size, 14, none⟩)) ?_ ⟨_, rfl, (q19 _ _).2 (getD_put_same _ _ _ (by omega)), hg, Rq.refl _ _⟩)
   unfold execOp
   simp only [List.getElem_toArray, List.getElem_cons_zero, List.getElem_cons_succ, e]
   simp [go_sem]
  ·cases hi
   have e : A.eval (.tmp 18) = .pointer (some ⟨w.heap.size, 14, none⟩) := (q19 _ _).1 (hI.get hd 19 rfl (by kernel_rfl))
   refine at_op rfl rfl (val_op (v := .pointer (some ⟨w.heap.size, 16, none⟩)) ?_ ⟨_, rfl, (q20 _ _).2 (getD_put_same _ _ _ (by omega)), hg, Rq.refl _ _⟩)
   unfold execOp
   simp only [List.getElem_toArray, List.getElem_cons_zero, List.getElem_cons_succ, e]
   simp [go_sem]
  ·cases hi
   have e : A.eval (.tmp 19) = .pointer (some ⟨w.heap.size, 16, none⟩) := (q20 _ _).1 (hI.get hd 20 rfl (by kernel_rfl))
   exact at_op rfl rfl (load_op rfl Tryz.underlying2 e ck.ts ⟨_, rfl, (q21 _ _).2 (getD_put_same _ _ _ (by omega)), hg, Rq.refl _ _⟩)
  ·cases hi
   obtain ⟨b, LL, e3, hb, hM, hN⟩ := (q0 _ _).1 (hI.get hd 0 rfl (by kernel_rfl))
   have e : A.eval (.tmp 20) = .int .i64 (m.t.s) := (q21 _ _).1 (hI.get hd 21 rfl (by kernel_rfl))
   refine at_op rfl rfl (insert_op rfl und_map Tryz.underlying2 e3 rfl e hM ?_)
   intro W' hM' ho'
   exact ⟨_, rfl, (q22 _ _).2 ⟨b, _, e3, hM', hN.put _ (by omega), by rw [mget_mput]; simp⟩, hg.onto ho' hb, Rq.put (q := 244) hM hM' ho' (by omega)⟩
  ·cases hi
   have e : A.eval (.tmp 1) = .pointer (some ⟨w.heap.size, 0, none⟩) := hI.old 1 (by kernel_rfl)
   refine at_op rfl rfl (val_op (v := .pointer (some ⟨w.heap.size, 14, none⟩)) ?_ ⟨_, rfl, (q23 _ _).2 (getD_put_same _ _ _ (by omega)), hg, Rq.refl _ _⟩)
   unfold execOp
   simp only [List.getElem_toArray, List.getElem_cons_zero, List.getElem_cons_succ, e]
   simp [go_sem]
  ·cases hi
   have e : A.eval (.tmp 21) = .pointer (some ⟨w.heap.size, 14, none⟩) := (q23 _ _).1 (hI.get hd 23 rfl (by kernel_rfl))
   refine at_op rfl rfl (val_op (v := .pointer (some ⟨w.heap.size, 17, none⟩)) ?_ ⟨_, rfl, (q24 _ _).2 (getD_put_same _ _ _ (by omega)), hg, Rq.refl _ _⟩)
   unfold execOp
   simp only [List.getElem_toArray, List.getElem_cons_zero, List.getElem_cons_succ, e]
   simp [go_sem]
  ·cases hi
   have e : A.eval (.tmp 22) = .pointer (some ⟨w.heap.size, 17, none⟩) := (q24 _ _).1 (hI.get hd 24 rfl (by kernel_rfl))
   exact at_op rfl rfl (load_op rfl Tryz.underlying2 e ck.tm ⟨_, rfl, (q25 _ _).2 (getD_put_same _ _ _ (by omega)), hg, Rq.refl _ _⟩)
  ·cases hi
   obtain ⟨b, LL, e3, hb, hM, hN⟩ := (q0 _ _).1 (hI.get hd 0 rfl (by kernel_rfl))
   have e : A.eval (.tmp 23) = .int .i64 (m.t.m) := (q25 _ _).1 (hI.get hd 25 rfl (by kernel_rfl))
   refine at_op rfl rfl (insert_op rfl und_map Tryz.underlying2 e3 rfl e hM ?_)
   intro W' hM' ho'
   exact ⟨_, rfl, (q26 _ _).2 ⟨b, _, e3, hM', hN.put _ (by omega), by rw [mget_mput]; simp⟩, hg.onto ho' hb, Rq.put (q := 245) hM hM' ho' (by omega)⟩
  ·cases hi
   have e : A.eval (.tmp 1) = .pointer (some ⟨w.heap.size, 0, none⟩) := hI.old 1 (by kernel_rfl)
   refine at_op rfl rfl (val_op (v := .pointer (some ⟨w.heap.size, 11, none⟩)) ?_ ⟨_, rfl, (q27 _ _).2 (getD_put_same _ _ _ (by omega)), hg, Rq.refl _ _⟩)
   unfold execOp
   simp only [List.getElem_toArray, List.getElem_cons_zero, List.getElem_cons_succ, e]
   simp [go_sem]
  ·cases hi
   have e : A.eval (.tmp 24) = .pointer (some ⟨w.heap.size, 11, none⟩) := (q27 _ _).1 (hI.get hd 27 rfl (by kernel_rfl))
   exact at_op rfl rfl (load_op rfl Tryz.underlying2 e ck.fl ⟨_, rfl, (q28 _ _).2 (getD_put_same _ _ _ (by omega)), hg, Rq.refl _ _⟩)
  ·cases hi
   obtain ⟨b, LL, e3, hb, hM, hN⟩ := (q0 _ _).1 (hI.get hd 0 rfl (by kernel_rfl))
   have e : A.eval (.tmp 25) = .int .i64 (m.fl) := (q28 _ _).1 (hI.get hd 28 rfl (by kernel_rfl))
   refine at_op rfl rfl (insert_op rfl und_map Tryz.underlying2 e3 rfl e hM ?_)
   intro W' hM' ho'
   exact ⟨_, rfl, (q29 _ _).2 ⟨b, _, e3, hM', hN.put _ (by omega), by rw [mget_mput]; simp⟩, hg.onto ho' hb, Rq.put (q := 246) hM hM' ho' (by omega)⟩
  ·cases hi
   have e : A.eval (.tmp 1) = .pointer (some ⟨w.heap.size, 0, none⟩) := hI.old 1 (by kernel_rfl)
   refine at_op rfl rfl (val_op (v := .pointer (some ⟨w.heap.size, 12, none⟩)) ?_ ⟨_, rfl, (q30 _ _).2 (getD_put_same _ _ _ (by omega)), hg, Rq.refl _ _⟩)
   unfold execOp
   simp only [List.getElem_toArray, List.getElem_cons_zero, List.getElem_cons_succ, e]
   simp [go_sem]
  ·cases hi
   have e : A.eval (.tmp 26) = .pointer (some ⟨w.heap.size, 12, none⟩) := (q30 _ _).1 (hI.get hd 30 rfl (by kernel_rfl))
   exact at_op rfl rfl (load_op rfl Tryz.underlying2 e ck.ms ⟨_, rfl, (q31 _ _).2 (getD_put_same _ _ _ (by omega)), hg, Rq.refl _ _⟩)
  ·cases hi
   obtain ⟨b, LL, e3, hb, hM, hN⟩ := (q0 _ _).1 (hI.get hd 0 rfl (by kernel_rfl))
   have e : A.eval (.tmp 27) = .int .i64 (m.ms) := (q31 _ _).1 (hI.get hd 31 rfl (by kernel_rfl))
   refine at_op rfl rfl (insert_op rfl und_map Tryz.underlying2 e3 rfl e hM ?_)
   intro W' hM' ho'
   exact ⟨_, rfl, (q32 _ _).2 ⟨b, _, e3, hM', hN.put _ (by omega), by rw [mget_mput]; simp⟩, hg.onto ho' hb, Rq.put (q := 247) hM hM' ho' (by omega)⟩
  ·cases hi
   have e : A.eval (.tmp 1) = .pointer (some ⟨w.heap.size, 0, none⟩) := hI.old 1 (by kernel_rfl)
   refine at_op rfl rfl (val_op (v := .pointer (some ⟨w.heap.size, 13, none⟩)) ?_ ⟨_, rfl, (q33 _ _).2 (getD_put_same _ _ _ (by omega)), hg, Rq.refl _ _⟩)
   unfold execOp
   simp only [List.getElem_toArray, List.getElem_cons_zero, List.getElem_cons_succ, e]
   simp [go_sem]
  ·cases hi
   have e : A.eval (.tmp 28) = .pointer (some ⟨w.heap.size, 13, none⟩) := (q33 _ _).1 (hI.get hd 33 rfl (by kernel_rfl))
   exact at_op rfl rfl (load_op rfl Tryz.underlying2 e ck.ky ⟨_, rfl, (q34 _ _).2 (getD_put_same _ _ _ (by omega)), hg, Rq.refl _ _⟩)
  ·cases hi
   obtain ⟨b, LL, e3, hb, hM, hN⟩ := (q0 _ _).1 (hI.get hd 0 rfl (by kernel_rfl))
   have e : A.eval (.tmp 29) = .int .i64 (m.ky) := (q34 _ _).1 (hI.get hd 34 rfl (by kernel_rfl))
   refine at_op rfl rfl (insert_op rfl und_map Tryz.underlying2 e3 rfl e hM ?_)
   intro W' hM' ho'
   exact ⟨_, rfl, (q35 _ _).2 ⟨b, _, e3, hM', hN.put _ (by omega), by rw [mget_mput]; simp⟩, hg.onto ho' hb, Rq.put (q := 248) hM hM' ho' (by omega)⟩
  ·cases hi
   exact at_op rfl rfl (move_op rfl ⟨_, rfl, (q36 _ _).2 ((getD_put_same _ _ _ (by omega)).trans (getD_put _ _ _ _ (by simp)).symm), hg, Rq.refl _ _⟩)
  ·cases hi
   exact at_op rfl rfl (assign_op rfl ⟨_, rfl, (q37 _ _).2 ((getD_put_same _ _ _ (by omega)).trans (getD_put _ _ _ _ (by simp)).symm), hg, Rq.refl _ _⟩)
  omega
 case done =>
  intro A W hI
  have hg := hI.g
  have t0 : Tk.says w.heap.size (at_ A) W (.new) := by have := hI.told 0 _ rfl rfl; rw [hl] at this; exact this
  have t4 : Tk.says w.heap.size (at_ A) W (.ins 240 (m.p.d)) := by have := hI.told 4 _ rfl rfl; rw [hl] at this; exact this
  have t8 : Tk.says w.heap.size (at_ A) W (.ins 241 (cable m.p)) := by have := hI.told 8 _ rfl rfl; rw [hl] at this; exact this
  have t14 : Tk.says w.heap.size (at_ A) W (.ins 242 (m.t.c / 16 % 256)) := by have := hI.told 14 _ rfl rfl; rw [hl] at this; exact this
  have t18 : Tk.says w.heap.size (at_ A) W (.ins 243 (m.t.v)) := by have := hI.told 18 _ rfl rfl; rw [hl] at this; exact this
  have t22 : Tk.says w.heap.size (at_ A) W (.ins 244 (m.t.s)) := by have := hI.told 22 _ rfl rfl; rw [hl] at this; exact this
  have t26 : Tk.says w.heap.size (at_ A) W (.ins 245 (m.t.m)) := by have := hI.told 26 _ rfl rfl; rw [hl] at this; exact this
  have t29 : Tk.says w.heap.size (at_ A) W (.ins 246 (m.fl)) := by have := hI.told 29 _ rfl rfl; rw [hl] at this; exact this
  have t32 : Tk.says w.heap.size (at_ A) W (.ins 247 (m.ms)) := by have := hI.told 32 _ rfl rfl; rw [hl] at this; exact this
  have t35 : Tk.says w.heap.size (at_ A) W (.ins 248 (m.ky)) := by have := hI.told 35 _ rfl rfl; rw [hl] at this; exact this
  have t36 : Tk.says w.heap.size (at_ A) W (.same 30 3) := by have := hI.told 36 _ rfl rfl; rw [hl] at this; exact this
  have t37 : Tk.says w.heap.size (at_ A) W (.same 2 30) := by have := hI.told 37 _ rfl rfl; rw [hl] at this; exact this
  obtain ⟨b, LL, e3, hb, hM, hN⟩ := t0
  have g240 : mget LL 240 = some (m.p.d) := by
   obtain ⟨b', L', e3', hM', _, hx⟩ := t4
   obtain rfl : b = b' := by have := e3.symm.trans e3'; simpa using this
   rw [mapAt_one hM hM']; exact hx
  have g241 : mget LL 241 = some (cable m.p) := by
   obtain ⟨b', L', e3', hM', _, hx⟩ := t8
   obtain rfl : b = b' := by have := e3.symm.trans e3'; simpa using this
   rw [mapAt_one hM hM']; exact hx
  have g242 : mget LL 242 = some (m.t.c / 16 % 256) := by
   obtain ⟨b', L', e3', hM', _, hx⟩ := t14
   obtain rfl : b = b' := by have := e3.symm.trans e3'; simpa using this
   rw [mapAt_one hM hM']; exact hx
  have g243 : mget LL 243 = some (m.t.v) := by
   obtain ⟨b', L', e3', hM', _, hx⟩ := t18
   obtain rfl : b = b' := by have := e3.symm.trans e3'; simpa using this
   rw [mapAt_one hM hM']; exact hx
  have g244 : mget LL 244 = some (m.t.s) := by
   obtain ⟨b', L', e3', hM', _, hx⟩ := t22
   obtain rfl : b = b' := by have := e3.symm.trans e3'; simpa using this
   rw [mapAt_one hM hM']; exact hx
  have g245 : mget LL 245 = some (m.t.m) := by
   obtain ⟨b', L', e3', hM', _, hx⟩ := t26
   obtain rfl : b = b' := by have := e3.symm.trans e3'; simpa using this
   rw [mapAt_one hM hM']; exact hx
  have g246 : mget LL 246 = some (m.fl) := by
   obtain ⟨b', L', e3', hM', _, hx⟩ := t29
   obtain rfl : b = b' := by have := e3.symm.trans e3'; simpa using this
   rw [mapAt_one hM hM']; exact hx
  have g247 : mget LL 247 = some (m.ms) := by
   obtain ⟨b', L', e3', hM', _, hx⟩ := t32
   obtain rfl : b = b' := by have := e3.symm.trans e3'; simpa using this
   rw [mapAt_one hM hM']; exact hx
  have g248 : mget LL 248 = some (m.ky) := by
   obtain ⟨b', L', e3', hM', _, hx⟩ := t35
   obtain rfl : b = b' := by have := e3.symm.trans e3'; simpa using this
   rw [mapAt_one hM hM']; exact hx
  have e2 : A.tmps.getD 2 undef = .map (some b) := (show at_ A 2 = at_ A 30 from t37).trans ((show at_ A 30 = at_ A 3 from t36).trans e3)
  have hA := frame_lit A 31 hI.size
  have hde : A.defers = [] := hI.defers
  rw [hde, show List.range 31 = [0, 1, 2, 3, 4, 5, 6, 7, 8, 9, 10, 11, 12, 13, 14, 15, 16, 17, 18, 19, 20, 21, 22, 23, 24, 25, 26, 27, 28, 29, 30] from rfl] at hA
  simp only [List.map_cons, List.map_nil, e2] at hA
  rw [hA]
  clear hA e2 hI hde t36 t37 e3
  have HM : Hid (∀ x, mget LL x = m.port x) := fun x => by
   unfold Mc.port
   by_cases hx : 240 ≤ x ∧ x ≤ 248
   ·obtain rfl | rfl | rfl | rfl | rfl | rfl | rfl | rfl | rfl : x = 240 ∨ x = 241 ∨ x = 242 ∨ x = 243 ∨ x = 244 ∨ x = 245 ∨ x = 246 ∨ x = 247 ∨ x = 248 := by omega
    all_goals first | exact g240 | exact g241 | exact g242 | exact g243 | exact g244 | exact g245 | exact g246 | exact g247 | exact g248
   ·rw [if_neg (by omega), if_neg (by omega), if_neg (by omega), if_neg (by omega), if_neg (by omega), if_neg (by omega), if_neg (by omega), if_neg (by omega), if_neg (by omega)]
    cases hgx : mget LL x with
    | none => rfl
    | some y => exact absurd (hN.range x y hgx) hx
  clear g240 g241 g242 g243 g244 g245 g246 g247 g248
  go_wp2
  go_ret
  exact ⟨b, rfl, by omega, ⟨LL, hM, hN.one, HM.out⟩, hg.bel⟩
end Go.Proofs.YtghmkacamabndaaGreatDoor.Mem
namespace Go.Proofs.YtghmkacamabndaaGreatDoor.Mem
open Go.ChangeShapes Go.WideShapes Go.RowKit Base Num Slc Rw Tmr Srl Rom RomOf Mp

theorem inRam_impl (q : Int) (w : World) :
  Calls Tryz.prog 185 #[.int .i64 q] w fun e w' => e = .returned (.bool (decide (128 ≤ q) && decide (q < 192))) ∧ w' = w := by
 by_cases h0 : 128 ≤ q
 ·go_enter Tryz.func185, Tryz.ntmps185
  go_wp2
  go_ret
  exact ⟨ret_bool (by simp [h0]), rfl⟩
 ·go_enter Tryz.func185, Tryz.ntmps185
  go_wp2
  go_ret
  exact ⟨ret_bool (by have : decide (128 ≤ q) = false := by simpa using h0
                      rw [this]; rfl), rfl⟩
theorem zero64 (w : World) : (zeroValue 2).run Tryz.prog w = .ok (.int .i64 0) w := by simp [go_sem]
theorem PortsAt.below {w w' : World} {b : Nat} {f : Int → Option Int} (h : PortsAt w b f) (hb : Below w.heap.size w w') : PortsAt w' b f := by
 obtain ⟨L, h1, h2⟩ := h
 exact ⟨L, h1.below hb, h2⟩
theorem PortsAt.onto {w w' : World} {b p : Nat} {f : Int → Option Int} (h : PortsAt w b f) (ho : Onto p w w') (hp : b ≠ p) : PortsAt w' b f := by
 obtain ⟨L, h1, h2⟩ := h
 exact ⟨L, h1.onto ho hp, h2⟩
theorem PortsAt.lt {w : World} {b : Nat} {f : Int → Option Int} (h : PortsAt w b f) : b < w.heap.size := by
 obtain ⟨L, h1, h2⟩ := h
 exact h1.lt
section
variable {ops : Array Oper} {rest : List Oper} {o : Oper} {a : Act} {w : World} {Q : Exit → Act → World → Prop} {x y z : Operand} {b : Nat} {q n : Int} {f : Int → Option Int}
theorem lk_ok (hgd : o.guard = none) (ho : o.op = .lookup 186 x y true) (hx : a.eval x = .map (some b)) (hy : a.eval y = .int .i64 q) (hM : PortsAt w b f)
  (h : wpList Tryz.prog ops Q rest (a.put o.dst (.tuple #[.int .i64 ((f q).getD 0), .bool (f q).isSome])) w) : wpList Tryz.prog ops Q (o :: rest) a w :=
 wpList_plain hgd fun _ hK => by
  obtain ⟨L, h1, _, h3⟩ := hM
  have e := (run_get (P := Tryz.prog) und_map Tryz.underlying2 (zero64 w) h1 q).2
  rw [h3] at e
  unfold Oper.wp execOp
  simp only [ho, hx, hy, Sem.run_bind, Result.andThen_ok, e]
  exact hK _ _ h
theorem lk_at (hgd : o.guard = none) (ho : o.op = .lookup 186 x y false) (hx : a.eval x = .map (some b)) (hy : a.eval y = .int .i64 q) (hM : PortsAt w b f)
  (h : wpList Tryz.prog ops Q rest (a.put o.dst (.int .i64 ((f q).getD 0))) w) : wpList Tryz.prog ops Q (o :: rest) a w :=
 wpList_plain hgd fun _ hK => by
  obtain ⟨L, h1, _, h3⟩ := hM
  have e := (run_get (P := Tryz.prog) und_map Tryz.underlying2 (zero64 w) h1 q).1
  rw [h3] at e
  unfold Oper.wp execOp
  simp only [ho, hx, hy, Sem.run_bind, Result.andThen_ok, e]
  exact hK _ _ h
theorem put_at (hgd : o.guard = none) (ho : o.op = .mapUpdate 186 x y z) (hx : a.eval x = .map (some b)) (hy : a.eval y = .int .i64 q) (hz : a.eval z = .int .i64 n) (hM : PortsAt w b f)
  (h : ∀ w', PortsAt w' b (fun k => if k = q then some n else f k) → Onto b w w' → wpList Tryz.prog ops Q rest (a.put o.dst undef) w') : wpList Tryz.prog ops Q (o :: rest) a w :=
 wpList_plain hgd fun _ hK => by
  obtain ⟨L, h1, h2, h3⟩ := hM
  obtain ⟨w', hr, m1, m2, m3⟩ := run_put (P := Tryz.prog) und_map Tryz.underlying2 h1 q n
  unfold Oper.wp execOp
  simp only [ho, hx, hy, hz, Sem.run_bind, Result.andThen_ok, hr]
  exact hK _ _ (h _ ⟨_, m1, Reg.mput_one L q n h2, fun k => by rw [mget_mput, h3]⟩ m2)
end
theorem read_port {m : Mc} {q : Int} (hR : Right m) (h1 : ¬ q < m.rom.length) (h2 : ¬ (128 ≤ q ∧ q < 192)) (h0 : 0 ≤ q) : m.read q = (m.port q).getD 255 := by
 have := hR.rom
 by_cases h : q < 128
 ·have e : m.port q = none := by
   unfold Mc.port
   rw [if_neg (by omega), if_neg (by omega), if_neg (by omega), if_neg (by omega), if_neg (by omega), if_neg (by omega), if_neg (by omega), if_neg (by omega), if_neg (by omega)]
  rw [e]
  simp [Mc.read, h, h1]
 ·have h3 : ¬ q < 192 := by omega
  simp only [Mc.read, h, h3, if_false, Mc.port]
  by_cases e0 : q = 240
  ·simp [e0]
  by_cases e1 : q = 241
  ·simp [e1, cable]
  by_cases e2 : q = 242
  ·simp [e2]
  by_cases e3 : q = 243
  ·simp [e3]
  by_cases e4 : q = 244
  ·simp [e4]
  by_cases e5 : q = 245
  ·simp [e5]
  by_cases e6 : q = 246
  ·simp [e6]
  by_cases e7 : q = 247
  ·simp [e7]
  by_cases e8 : q = 248
  ·simp [e8]
  simp [e0, e1, e2, e3, e4, e5, e6, e7, e8]
set_option maxHeartbeats 1000000 in
theorem readAt_impl (v : Value) (m : Mc) (q : Int) (w : World) (hm : MSl w v m) :
  Calls Tryz.prog 156 #[v, .int .i64 q] w fun e w' => e = .returned (.int .i64 (m.readAt q)) ∧ Below w.heap.size w w' := by
 obtain ⟨vr, va, hv, ⟨ar, cr, rfl, hir, hlr, hcr, hnr⟩, ⟨aa, ca, rfl, hia, hla, hca, hna⟩⟩ := hm
 have hr : Sl w (.slice ar m.rom.length cr) m.rom := ⟨ar, cr, rfl, hir, hlr, hcr, hnr⟩
 have ha : Sl w (.slice aa m.ram.length ca) m.ram := ⟨aa, ca, rfl, hia, hla, hca, hna⟩
 unfold maxLen at hcr hca
 clear hnr hna
 cases hok : m.ok
 ·have e : m.readAt q = -1 := by simp [Mc.readAt, hok]
  rw [e]
  go_enter Tryz.func156, Tryz.ntmps156
  go_wp2_with (first
   | (refine box_m rfl rfl hv ?_; intro w0 r0 hB0)
   | (refine ld_mc rfl rfl rfl r0 ?_)
   | (go_at_call 20; refine (machineOk_impl _ m _ ⟨_, _, rfl, hr.below hB0, ha.below hB0⟩).mono ?_; rintro e w1 ⟨rfl, hb1⟩; rw [hok]; have hB1 := hB0.trans (hb1.mono hB0.size)))
  go_ret
  exact ⟨rfl, hB1⟩
 cases hb : bok q
 ·have e : m.readAt q = -1 := by simp [Mc.readAt, hb]
  rw [e]
  go_enter Tryz.func156, Tryz.ntmps156
  go_wp2_with (first
   | (refine box_m rfl rfl hv ?_; intro w0 r0 hB0)
   | (refine ld_mc rfl rfl rfl r0 ?_)
   | (go_at_call 20; refine (machineOk_impl _ m _ ⟨_, _, rfl, hr.below hB0, ha.below hB0⟩).mono ?_; rintro e w1 ⟨rfl, hb1⟩; rw [hok]; have hB1 := hB0.trans (hb1.mono hB0.size))
   | (go_at_call 75; refine (byteOk_impl _ _).mono ?_; rintro e w2 ⟨rfl, rfl⟩; rw [hb]))
  go_ret
  exact ⟨rfl, hB1⟩
 have e : m.readAt q = m.read q := by simp [Mc.readAt, hok, hb]
 rw [e]
 clear e
 have hq := bok_true hb
 have hR := Mc.right hok
 have hR1 := hR.rom
 have hR2 := hR.ram
 have hR3 := hR.tim
 by_cases hl : q < (m.rom.length : Int)
 ·obtain ⟨k, rfl⟩ : ∃ k : Nat, q = (k : Int) := ⟨q.toNat, by omega⟩
  have e : m.read (k : Int) = m.rom.getD k 0 := by
   have : (k : Int) < 128 := by omega
   simp [Mc.read, this, hl]
  rw [e]
  have hkl : k < m.rom.length := by omega
  rcases hir.2 with h0 | ⟨b, off, rfl, hbl, hcell⟩
  ·omega
  have hz := hcell k hkl
  generalize m.rom.getD k 0 = z at hz ⊢
  clear hcell hir hR2 e
  go_enter Tryz.func156, Tryz.ntmps156
  go_wp2_with (first
   | (refine box_m rfl rfl hv ?_; intro w0 r0 hB0)
   | (refine ld_mc rfl rfl rfl r0 ?_)
   | (go_at_call 20; refine (machineOk_impl _ m _ ⟨_, _, rfl, hr.below hB0, ha.below hB0⟩).mono ?_; rintro e w1 ⟨rfl, hb1⟩; rw [hok]; have hB1 := hB0.trans (hb1.mono hB0.size); replace r0 := r0.below hb1; have k0 := (cw r0).vr; have hz0 : w1.cell? ⟨b, off + k, none⟩ = some (.int .i64 z) := (hB1.cell (p := ⟨b, off + k, none⟩) hbl).trans hz)
   | (go_at_call 75; refine (byteOk_impl _ _).mono ?_; rintro e w2 ⟨rfl, rfl⟩; rw [hb]))
  go_ret
  exact ⟨rfl, hB1⟩
 by_cases hin : 128 ≤ q ∧ q < 192
 ·obtain ⟨k, rfl⟩ : ∃ k : Nat, q = 128 + (k : Int) := ⟨(q - 128).toNat, by omega⟩
  have e : m.read (128 + (k : Int)) = m.ram.getD k 0 := by
   have h1 : ¬ (128 + (k : Int)) < 128 := by omega
   have h2 : (128 + (k : Int) - 128).toNat = k := by omega
   simp only [Mc.read, h1, hin.2, if_true, if_false, h2]
  rw [e]
  have hkl : k < m.ram.length := by omega
  rcases hia.2 with h0 | ⟨b, off, rfl, hbl, hcell⟩
  ·omega
  have hz := hcell k hkl
  have hs : 128 + (k : Int) - 128 = (k : Int) := by omega
  have hi : (decide (128 ≤ 128 + (k : Int)) && decide (128 + (k : Int) < 192)) = true := by simp; omega
  generalize m.ram.getD k 0 = z at hz ⊢
  clear hcell hir e hR2 hia
  go_enter Tryz.func156, Tryz.ntmps156
  go_wp2_with (first
   | (refine box_m rfl rfl hv ?_; intro w0 r0 hB0)
   | (refine ld_mc rfl rfl rfl r0 ?_)
   | (go_at_call 20; refine (machineOk_impl _ m _ ⟨_, _, rfl, hr.below hB0, ha.below hB0⟩).mono ?_; rintro e w1 ⟨rfl, hb1⟩; rw [hok]; have hB1 := hB0.trans (hb1.mono hB0.size); replace r0 := r0.below hb1; have k0 := (cw r0).vr; have k1 := (cw r0).va; have hz0 : w1.cell? ⟨b, off + k, none⟩ = some (.int .i64 z) := (hB1.cell (p := ⟨b, off + k, none⟩) hbl).trans hz)
   | (go_at_call 75; refine (byteOk_impl _ _).mono ?_; rintro e w2 ⟨rfl, rfl⟩; rw [hb])
   | (go_at_call 185; refine (inRam_impl _ _).mono ?_; rintro e w2 ⟨rfl, rfl⟩; rw [hi]))
  go_ret
  exact ⟨rfl, hB1⟩
 have hi : (decide (128 ≤ q) && decide (q < 192)) = false := by simp; omega
 rw [read_port hR hl hin hq.1]
 have HP : Hid (Right m) := hR
 clear hir hia hR2
 cases hp : m.port q with
 | none =>
  go_enter Tryz.func156, Tryz.ntmps156
  go_wp2_with (first
   | (refine box_m rfl rfl hv ?_; intro w0 r0 hB0)
   | (refine ld_mc rfl rfl rfl r0 ?_)
   | (go_at_call 20; refine (machineOk_impl _ m _ ⟨_, _, rfl, hr.below hB0, ha.below hB0⟩).mono ?_; rintro e w1 ⟨rfl, hb1⟩; rw [hok]; have hB1 := hB0.trans (hb1.mono hB0.size); replace r0 := r0.below hb1; have k0 := (cw r0).vr)
   | (go_at_call 75; refine (byteOk_impl _ _).mono ?_; rintro e w2 ⟨rfl, rfl⟩; rw [hb])
   | (go_at_call 185; refine (inRam_impl _ _).mono ?_; rintro e w2 ⟨rfl, rfl⟩; rw [hi])
   | (go_at_call 186; refine (portsOf_impl _ m _ ⟨_, _, rfl, hr.below hB1, ha.below hB1⟩ hR3.1 hR3.2).mono ?_; rintro e w3 ⟨b3, rfl, hb3, hM3, hbe3⟩; have hB3 := hB1.trans (hbe3.mono hB1.size))
   | (refine lk_ok rfl rfl rfl rfl hM3 ?_; rw [hp]))
  go_ret
  exact ⟨rfl, hB3⟩
 | some n =>
  go_enter Tryz.func156, Tryz.ntmps156
  go_wp2_with (first
   | (refine box_m rfl rfl hv ?_; intro w0 r0 hB0)
   | (refine ld_mc rfl rfl rfl r0 ?_)
   | (go_at_call 20; refine (machineOk_impl _ m _ ⟨_, _, rfl, hr.below hB0, ha.below hB0⟩).mono ?_; rintro e w1 ⟨rfl, hb1⟩; rw [hok]; have hB1 := hB0.trans (hb1.mono hB0.size); replace r0 := r0.below hb1; have k0 := (cw r0).vr)
   | (go_at_call 75; refine (byteOk_impl _ _).mono ?_; rintro e w2 ⟨rfl, rfl⟩; rw [hb])
   | (go_at_call 185; refine (inRam_impl _ _).mono ?_; rintro e w2 ⟨rfl, rfl⟩; rw [hi])
   | (go_at_call 186; refine (portsOf_impl _ m _ ⟨_, _, rfl, hr.below hB1, ha.below hB1⟩ hR3.1 hR3.2).mono ?_; rintro e w3 ⟨b3, rfl, hb3, hM3, hbe3⟩; have hB3 := hB1.trans (hbe3.mono hB1.size))
   | (refine lk_ok rfl rfl rfl rfl hM3 ?_; rw [hp]))
  go_ret
  exact ⟨rfl, hB3⟩
end Go.Proofs.YtghmkacamabndaaGreatDoor.Mem
