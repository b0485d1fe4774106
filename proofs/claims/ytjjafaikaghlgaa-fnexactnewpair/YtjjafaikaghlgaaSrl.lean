/-
  The cable's port: what chapter 5's functions answer, as the document's model tells it. The port: what is sent, a beat, an answer, as the document's model tells them; a port taken over field by field, and two of them compared. The port: what is sent, and a beat, as the document's model tells them. The port: a beat comes, as the document's model tells it.
-/
import Derived.Test.YtjjafaikaghlgaaTmr
import Derived.Test.YtjjafaikaghlgaaSlc
import Derived.Test.YtjjafaikaghlgaaRow
import Derived.Test.YtjjafaikaghlgaaReg
namespace Go.Proofs.Ytjjafaikaghlgaa.Srl
open Go.ChangeShapes Go.WideShapes Go.RowKit Base Num Slc Rw Reg Tmr
set_option linter.unusedVariables false
set_option maxRecDepth 20000

/-- A port: data, busy, lead, left, next at, wait. -/
structure Sr where
  d : Int
  b : Bool
  l : Bool
  n : Int
  x : Int
  t : Bool
def Sr.val (s : Sr) : Value := .agg #[.int .i64 s.d, .bool s.b, .bool s.l, .int .i64 s.n, .int .i64 s.x, .bool s.t]
def Sr.nul : Sr := ⟨0, false, false, 0, 0, false⟩
def Sr.ok (s : Sr) : Bool := bok s.d && clk s.x && (s.b || !s.l) && (s.l || !s.t) && (if s.b then inn s.n 1 8 && (s.x == 0 || (s.l && !s.t)) else s.n == 0 && s.x == 0)
def Sr.starts (s : Sr) (lead : Bool) (now : Int) : Bool := s.ok && inn now 0 (if lead then 999999968 else 1000000000)
def Sr.start (s : Sr) (lead : Bool) (now : Int) : Sr := if s.starts lead now then ⟨s.d, true, lead, 8, if lead then now + 32 else 0, false⟩ else Sr.nul
def Sr.send (s : Sr) (upto : Int) : Sr × Int × Int :=
  if s.ok then (if 0 < s.x ∧ s.x ≤ upto then (⟨s.d, s.b, s.l, s.n, 0, true⟩, s.x, s.d / 128) else (s, -1, 0)) else (Sr.nul, -1, 0)
def Sr.shift (s : Sr) (bit : Int) : Sr := ⟨2 * s.d % 256 + bit, s.b, s.l, s.n - 1, s.x, s.t⟩
def Sr.beat (s : Sr) (bit : Int) : Sr × Int × Bool :=
  if s.ok && inn bit 0 1 then (if s.b && !s.l then (⟨2 * s.d % 256 + bit, decide (s.n ≠ 1), s.l, s.n - 1, s.x, s.t⟩, s.d / 128, decide (s.n = 1)) else (s, 1, false)) else (Sr.nul, 0, false)
def Sr.answer (s : Sr) (bit at_ : Int) : Sr × Bool :=
  if s.ok && inn bit 0 1 && inn at_ 0 999999968 then
    (if s.t then (if s.n = 1 then (⟨2 * s.d % 256 + bit, false, false, 0, s.x, false⟩, true) else (⟨2 * s.d % 256 + bit, s.b, s.l, s.n - 1, at_ + 32, false⟩, false)) else (s, false)) else (Sr.nul, false)

theorem und_sr : Try.prog.underlying 62 = some (.struct #[{ name := "Data", type := 2, offset := 0, embedded := false, tag := "", pkgPath := "", byteOffset := 0 }, { name := "Busy", type := 4, offset := 1, embedded := false, tag := "", pkgPath := "", byteOffset := 8 }, { name := "Lead", type := 4, offset := 2, embedded := false, tag := "", pkgPath := "", byteOffset := 9 }, { name := "Left", type := 2, offset := 3, embedded := false, tag := "", pkgPath := "", byteOffset := 16 }, { name := "NextAt", type := 2, offset := 4, embedded := false, tag := "", pkgPath := "", byteOffset := 24 }, { name := "Wait", type := 4, offset := 5, embedded := false, tag := "", pkgPath := "", byteOffset := 32 }]) := by kernel_rfl
theorem info_sr : (Try.prog.info? 62).map (·.size) = some 6 := by kernel_rfl
section
variable {ops : Array Oper} {rest : List Oper} {o : Oper} {a : Act} {w : World} {Q : Exit → Act → World → Prop} {x y : Operand} {g : Nat} {d n q : Int} {b l t : Bool} {T : TypeId} {old : Array Value}
/-- A port is stored into a block of its own. -/
theorem st_sr (hgd : o.guard = none) (ho : o.op = .store 62 x y) (hx : a.eval x = .pointer (some ⟨g, 0, none⟩)) (hy : a.eval y = .agg #[.int .i64 d, .bool b, .bool l, .int .i64 n, .int .i64 q, .bool t]) (hr : Row w g old T) (hold : old.size = 6)
    (h : ∀ w', Row w' g #[.int .i64 d, .bool b, .bool l, .int .i64 n, .int .i64 q, .bool t] T → Onto g w w' → w'.heap.size = w.heap.size → wpList Try.prog ops Q rest (a.put o.dst undef) w') : wpList Try.prog ops Q (o :: rest) a w :=
  st_row hgd _ x y ho hx hy hr info_sr hold (by simp [Value.oneCell']) h
end
theorem quo_pos' {a r : Int} (ha : 0 ≤ a) : a.tdiv r = a / r := Int.tdiv_eq_ediv_of_nonneg ha
theorem rem_pos' {a r : Int} (ha : 0 ≤ a) : a.tmod r = a % r := Int.tmod_eq_emod_of_nonneg ha
theorem Sr.eta (s : Sr) : s.val = .agg #[.int .i64 s.d, .bool s.b, .bool s.l, .int .i64 s.n, .int .i64 s.x, .bool s.t] := rfl

theorem l5Clock_any (n : Int) (w : World) :
    Calls Try.prog 108 #[.int .i64 n] w fun e w' => e = .returned (.bool (clk n)) ∧ w' = w := by
  go_enter Try.func108, Try.ntmps108
  go_wp2_with (go_at_call 84; refine (in_any _ _ _ _).mono ?_; rintro e w1 ⟨rfl, rfl⟩)
  go_ret
  exact ⟨rfl, rfl⟩
set_option maxHeartbeats 4000000 in
theorem serialOk_spec (s : Sr) (w : World) :
    Calls Try.prog 86 #[s.val] w fun e w' => e = .returned (.bool s.ok) ∧ Below w.heap.size w w' := by
  obtain ⟨d, b, l, n, x, t⟩ := s
  show Calls Try.prog 86 #[.agg #[.int .i64 d, .bool b, .bool l, .int .i64 n, .int .i64 x, .bool t]] w _
  have k0 : clk 0 = true := by decide
  cases b <;> cases l <;> cases t
  all_goals
    go_enter Try.func86, Try.ntmps86
    go_wp2_with (first
      | (go_at_call 83; refine (byteOk_spec _ _).mono ?_; rintro e w1 ⟨rfl, rfl⟩; generalize hb : bok _ = r; cases r)
      | (go_at_call 108; refine (l5Clock_any _ _).mono ?_; rintro e w1 ⟨rfl, rfl⟩; generalize hk : clk _ = r; cases r)
      | (go_at_call 84; refine (in_any _ _ _ _).mono ?_; rintro e w1 ⟨rfl, rfl⟩; generalize hi : inn _ _ _ = r; cases r))
    all_goals go_ret
    all_goals exact ⟨ret_bool (by simp [Sr.ok, *]), (Below.refl _ _).alloc (Nat.le_refl _) _⟩
theorem Sr.start_no {s : Sr} {lead : Bool} {now : Int} (h : s.starts lead now = false) : s.start lead now = Sr.nul := by simp [Sr.start, h]
theorem Sr.ok_true {s : Sr} (h : s.ok = true) : (0 ≤ s.d ∧ s.d ≤ 255) ∧ (0 ≤ s.x ∧ s.x ≤ 1000000000) := by
  simp only [Sr.ok, Bool.and_eq_true] at h
  exact ⟨bok_true h.1.1.1.1, clk_true h.1.1.1.2⟩
end Go.Proofs.Ytjjafaikaghlgaa.Srl
namespace Go.Proofs.Ytjjafaikaghlgaa.Srl
open Go.ChangeShapes Go.WideShapes Go.RowKit Base Num Slc Rw Reg Tmr
set_option linter.unusedVariables false
set_option maxRecDepth 20000

theorem toSerial_any (s : Sr) (w : World) :
    Calls Try.prog 90 #[s.val] w fun e w' => e = .returned s.val ∧ Below w.heap.size w w' := by
  rw [Sr.eta s]
  go_enter Try.func90, Try.ntmps90
  go_wp2
  refine ret_row rfl rfl ((Row.new1 (w := w.alloc _) (n := w.heap.size + 1) (by simp) #[.int .i64 s.d, .bool s.b, .bool s.l, .int .i64 s.n, .int .i64 s.x, .bool s.t] 62).alloc _) und_sr rfl info_sr rfl ?_
  exact ⟨rfl, (((Below.refl _ _).alloc (Nat.le_refl _) _).alloc (by simp) _).alloc (by simp; omega) _⟩
theorem eqSerial_same (s : Sr) (w : World) :
    Calls Try.prog 105 #[s.val, s.val] w fun e w' => e = .returned (.bool true) ∧ Below w.heap.size w w' := by
  rw [Sr.eta s]
  go_enter Try.func105, Try.ntmps105
  go_wp2
  go_ret
  exact ⟨rfl, ((Below.refl _ _).alloc (Nat.le_refl _) _).alloc (by simp) _⟩
theorem Sr.ok_busy {s : Sr} (h : s.ok = true) (hb : s.b = true) : 1 ≤ s.n ∧ s.n ≤ 8 := by
  simp only [Sr.ok, hb, if_true, Bool.and_eq_true] at h
  exact inn_true h.2.1
theorem Sr.ok_wait {s : Sr} (h : s.ok = true) (ht : s.t = true) : s.l = true ∧ s.b = true ∧ s.x = 0 := by
  obtain ⟨d, b, l, n, x, t⟩ := s
  simp only at ht
  subst ht
  cases b <;> cases l <;> simp [Sr.ok] at h ⊢
  exact h.2.2
end Go.Proofs.Ytjjafaikaghlgaa.Srl
namespace Go.Proofs.Ytjjafaikaghlgaa.Srl
open Go.ChangeShapes Go.WideShapes Go.RowKit Base Num Slc Rw Reg Tmr
set_option linter.unusedVariables false
set_option maxRecDepth 20000

/-- Within the last statement: the port that came, the one that goes, the result's block. -/
structure Gs (w : World) (b2 b4 b7 : Nat) (s o : Sr) (W : World) : Prop where
  r2 : Row W b2 #[.int .i64 s.d, .bool s.b, .bool s.l, .int .i64 s.n, .int .i64 s.x, .bool s.t] 62
  r7 : Row W b7 #[.int .i64 o.d, .bool o.b, .bool o.l, .int .i64 o.n, .int .i64 o.x, .bool o.t] 62
  r4 : ∃ cs : Array Value, cs.size = 6 ∧ Row W b4 cs 62
  bel : Below w.heap.size w W
theorem Gs.drew {w W : World} {b2 b4 b7 : Nat} {s o : Sr} (h : Gs w b2 b4 b7 s o W) : Gs w b2 b4 b7 s o W.drew := ⟨h.r2.drewN 1, h.r7.drewN 1, h.r4.imp fun _ ⟨e, r⟩ => ⟨e, r.drewN 1⟩, h.bel.drew⟩
theorem row_set {W : World} {b : Nat} (cs : Array Value) : Onto b W (W.setRow b cs) := ⟨rfl, rfl, rfl, by simp, fun k hk _ => setRow_other W _ k _ hk⟩
theorem Gs.store {w W : World} {b2 b4 b7 : Nat} {s o : Sr} (h : Gs w b2 b4 b7 s o W) (h2 : b2 ≠ b4) (h7 : b7 ≠ b4) (hw : w.heap.size ≤ b4) (cs : Array Value) (hcs : cs.size = 6) : Gs w b2 b4 b7 s o (W.setRow b4 cs) := by
  obtain ⟨old, e, r⟩ := h.r4
  exact ⟨h.r2.onto (row_set cs) h2, h.r7.onto (row_set cs) h7, ⟨cs, hcs, Row.of (setRow_heap W _ _ _ _ _ r.row)⟩, below_onto h.bel (row_set cs) hw⟩
end Go.Proofs.Ytjjafaikaghlgaa.Srl
namespace Go.Proofs.Ytjjafaikaghlgaa.Srl
open Go.ChangeShapes Go.WideShapes Go.RowKit Base Num Slc Rw Reg Tmr
set_option linter.unusedVariables false
set_option maxRecDepth 20000

end Go.Proofs.Ytjjafaikaghlgaa.Srl
