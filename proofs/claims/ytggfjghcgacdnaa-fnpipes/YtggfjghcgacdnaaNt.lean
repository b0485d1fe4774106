/-
  Notes, as the document tells them; how they lie; which are right, of the model and of the program.
-/
import Derived.Test.YtggfjghcgacdnaaInI
import Derived.Laws.StructEq
namespace Go.Proofs.Ytggfjghcgacdnaa.Mem
open Go.ChangeShapes Go.WideShapes Go.RowKit Base Num Slc Slf Rw Tmr Reg
set_option linter.unusedVariables false
set_option linter.unusedSimpArgs false
set_option maxRecDepth 20000

/-- A note: a promise and until when, or a message. -/
structure Nt where
  p : Bool
  t : Int
  m : M3
def Nt.nul : Nt := ⟨false, 0, M3.nul⟩
def Nt.cs (n : Nt) : List Value := [.bool n.p, .int .i64 n.t, .int .i64 n.m.t, .int .i64 n.m.k, .int .i64 n.m.v]
def Nt.val (n : Nt) : Value := .agg #[.bool n.p, .int .i64 n.t, .int .i64 n.m.t, .int .i64 n.m.k, .int .i64 n.m.v]
def M3.isNul (m : M3) : Bool := m.t == 0 && m.k == 0 && m.v == 0
def Nt.ok (n : Nt) : Bool := if n.p then inn n.t 0 1000000100 && n.m.isNul else n.t == 0 && n.m.ok
theorem nt_val (n : Nt) : n.val = .agg #[.bool n.p, .int .i64 n.t, .int .i64 n.m.t, .int .i64 n.m.k, .int .i64 n.m.v] := rfl
/-- How notes lie in memory. -/
def fN : Fl Nt := ⟨30, 24, 5, 40, Nt.cs, Nt.nul, Nt.val⟩
theorem okN : fN.Ok := ⟨fun _ => rfl, by decide, fun _ => rfl, by kernel_rfl, by kernel_rfl, by decide, by decide, fun _ => rfl, fun m w b q h => run_loadVar_mid w b q _ m.cs _ h Try.underlying30 rfl (by kernel_rfl)⟩
theorem info_nt : (Try.prog.info? 30).map (·.size) = some 5 := by kernel_rfl
def Nt.at' (l : List Nt) (i : Nat) : Nt := l.getD i Nt.nul
theorem atN {l : List Nt} {i : Nat} (h : i < l.length) : l[i]? = some (Nt.at' l i) := by
  unfold Nt.at'
  rw [List.getD_eq_getElem?_getD, List.getElem?_eq_getElem h]
  rfl
/-- A note's block. -/
abbrev NtRow (w : World) (g : Nat) (n : Nt) : Prop := Row w g #[.bool n.p, .int .i64 n.t, .int .i64 n.m.t, .int .i64 n.m.k, .int .i64 n.m.v] 30
section
variable {ops : Array Oper} {rest : List Oper} {o : Oper} {a : Act} {w : World} {Q : Exit → Act → World → Prop} {x y : Operand} {g k : Nat} {v : Value} {n : Nt}
theorem box_nt (hgd : o.guard = none) (ho : o.op = .box 30 x) (hx : a.eval x = n.val)
    (h : ∀ w', NtRow w' w.heap.size n → Below w.heap.size w w' → wpList Try.prog ops Q rest (a.put o.dst (.pointer (some ⟨w.heap.size, 0, none⟩))) w') : wpList Try.prog ops Q (o :: rest) a w :=
  wpList_plain hgd fun _ hK => by
    have e : (Instr.box 30 n.val).run Try.prog w = .ok (.pointer (some ⟨w.heap.size, 0, none⟩)) (w.alloc (.cells #[.bool n.p, .int .i64 n.t, .int .i64 n.m.t, .int .i64 n.m.k, .int .i64 n.m.v] 30)) := rfl
    unfold Oper.wp execOp
    simp only [ho, hx, Sem.run_bind, Result.andThen_ok, e]
    exact hK _ _ (h _ (Row.new _ _ _) ((Below.refl _ _).alloc (Nat.le_refl _) _))
theorem ld_nt (hgd : o.guard = none) (ho : o.op = .load 30 x) (hx : a.eval x = .pointer (some ⟨g, 0, none⟩)) (hr : NtRow w g n)
    (h : wpList Try.prog ops Q rest (a.put o.dst n.val) w) : wpList Try.prog ops Q (o :: rest) a w :=
  ld_row hgd _ x ho hx hr Try.underlying30 rfl info_nt h
/-- The message within a note. -/
theorem ld_ntm (hw : Region.wanted o (yielded ops a.tmps) = true) (ho : o.op = .load 28 x) (hx : a.eval x = .pointer (some ⟨g, 2, none⟩)) (hr : NtRow w g n)
    (h : wpList Try.prog ops Q rest (a.put o.dst n.m.val) w) : wpList Try.prog ops Q (o :: rest) a w :=
  wpList_step fun K hK => by
    rw [if_pos hw]
    have e : (loadVar 28 ⟨g, 2, none⟩).run Try.prog w = .ok n.m.val w := run_loadVar_mid w g 2 _ n.m.cs _ (fun j u hj => by
      rw [hr.cell]
      rcases j with _ | _ | _ | j
      · exact hj
      · exact hj
      · exact hj
      · simp [M3.cs] at hj) Try.underlying28 rfl (by kernel_rfl)
    unfold Oper.wp execOp
    simp only [ho, hx, Instr.loadAt, Instr.sureAddr, Sem.run_bind, Sem.run_pure, Result.andThen_ok, e]
    exact hK _ _ h
end
def M3.alike (m n : M3) : Bool := m.t == n.t && m.k == n.k && m.v == n.v
theorem eq_m3 (m n : M3) (w : World) : (binOp .eql 28 m.val n.val).run Try.prog w = .ok (.bool (m.alike n)) w := by
  have ht : Try.prog.underlying 28 = some (.struct (Try.prog.fieldsOf 28)) := by kernel_rfl
  have hp : Try.prog.stoodInHeld 28 = false := by kernel_rfl
  obtain ⟨f1, f2, f3, hf, a1, a2, a3, b1, b2, b3, c1, c2, c3⟩ : ∃ f1 f2 f3 : Field, (Try.prog.fieldsOf 28).toList = [f1, f2, f3] ∧ (f1.name ≠ "_") ∧ f1.type = 2 ∧ f1.offset = 0 ∧ (f2.name ≠ "_") ∧ f2.type = 2 ∧ f2.offset = 1 ∧ (f3.name ≠ "_") ∧ f3.type = 2 ∧ f3.offset = 2 :=
    ⟨_, _, _, rfl, by decide, rfl, rfl, by decide, rfl, rfl, by decide, rfl, rfl⟩
  have hi : Try.prog.underlying 2 = some (.int .i64) := Try.underlying2
  rw [m3_val, m3_val, run_eql_struct, run_equalIn_struct w 9999 28 _ _ ht hp, hf]
  simp only [M3.alike]
  by_cases h1 : m.t = n.t
  · by_cases h2 : m.k = n.k
    · by_cases h3 : m.v = n.v
      · simp [go_sem, Op.eqFields, a1, a2, a3, b1, b2, b3, c1, c2, c3, hi, h1, h2, h3]
      · simp [go_sem, Op.eqFields, a1, a2, a3, b1, b2, b3, c1, c2, c3, hi, h1, h2, h3]
    · simp [go_sem, Op.eqFields, a1, a2, a3, b1, b2, b3, c1, c2, c3, hi, h1, h2]
  · simp [go_sem, Op.eqFields, a1, a2, a3, b1, b2, b3, c1, c2, c3, hi, h1]
section
variable {ops : Array Oper} {rest : List Oper} {o : Oper} {a : Act} {w : World} {Q : Exit → Act → World → Prop} {x y : Operand} {m n : M3}
theorem eqM3 {T : TypeId} (hw : Region.wanted o (yielded ops a.tmps) = true) (ho : o.op = .binOp .eql 28 x y T) (hx : a.eval x = m.val) (hy : a.eval y = n.val)
    (h : wpList Try.prog ops Q rest (a.put o.dst (.bool (m.alike n))) w) : wpList Try.prog ops Q (o :: rest) a w :=
  wpList_step fun K hK => by
    rw [if_pos hw]
    have hm : Try.prog.eqGuardType Try.prog.depth 28 = false := by kernel_rfl
    have e := eq_m3 m n w
    rw [m3_val, m3_val] at e
    have hx' := hx.trans (m3_val m)
    have hy' := hy.trans (m3_val n)
    unfold Oper.wp execOp
    simp only [ho, hx', hy', Sem.run_bind, run_eqGuard_agg w _ _ _ _ _ _ hm, Result.andThen_ok, e]
    exact hK _ _ h
end
theorem noteOk_spec (n : Nt) (w : World) : Calls Try.prog 17 #[n.val] w fun e w' => e = .returned (.bool n.ok) ∧ Below w.heap.size w w' := by
  obtain ⟨vv, hvv⟩ : ∃ vv, vv = n.val := ⟨_, rfl⟩
  rw [← hvv]
  have HO : Hid (n.ok = if n.p then inn n.t 0 1000000100 && n.m.isNul else n.t == 0 && n.m.ok) := show _ = _ from rfl
  cases hp : n.p
  · by_cases h0 : n.t = 0
    · go_enter Try.func17, Try.ntmps17
      go_wp2_with (first
        | (refine box_nt rfl rfl hvv ?_; intro w0 r0 hB0; have c0 : w0.cell? ⟨w.heap.size, 0, none⟩ = some (.bool n.p) := r0.cell 0; rw [hp] at c0; have c1 : w0.cell? ⟨w.heap.size, 1, none⟩ = some (.int .i64 n.t) := r0.cell 1; rw [h0] at c1)
        | (refine ld_ntm rfl rfl rfl r0 ?_)
        | (go_at_call 38; refine (l9MsgOk_spec n.m _).mono ?_; rintro e w2 ⟨rfl, hb2⟩))
      go_ret
      exact ⟨ret_bool (by rw [HO.out, hp, h0]; simp), below_more hB0 hb2⟩
    · have h1 : (n.t == 0) = false := by simpa using h0
      go_enter Try.func17, Try.ntmps17
      go_wp2_with (first
        | (refine box_nt rfl rfl hvv ?_; intro w0 r0 hB0; have c0 : w0.cell? ⟨w.heap.size, 0, none⟩ = some (.bool n.p) := r0.cell 0; rw [hp] at c0; have c1 : w0.cell? ⟨w.heap.size, 1, none⟩ = some (.int .i64 n.t) := r0.cell 1))
      go_ret
      exact ⟨ret_bool (by rw [HO.out, hp, h1]; rfl), hB0⟩
  · have HN : Hid (n.m.isNul = n.m.alike M3.nul) := show _ = _ from rfl
    cases h0 : inn n.t 0 1000000100
    · go_enter Try.func17, Try.ntmps17
      go_wp2_with (first
        | (refine box_nt rfl rfl hvv ?_; intro w0 r0 hB0; have c0 : w0.cell? ⟨w.heap.size, 0, none⟩ = some (.bool n.p) := r0.cell 0; rw [hp] at c0; have c1 : w0.cell? ⟨w.heap.size, 1, none⟩ = some (.int .i64 n.t) := r0.cell 1)
        | (go_at_call 37; refine (Tmr.in_any _ _ _ _).mono ?_; rintro e w2 ⟨rfl, rfl⟩; rw [h0]))
      go_ret
      exact ⟨ret_bool (by rw [HO.out, hp, h0]; rfl), hB0⟩
    · go_enter Try.func17, Try.ntmps17
      go_wp2_with (first
        | (refine box_nt rfl rfl hvv ?_; intro w0 r0 hB0; have c0 : w0.cell? ⟨w.heap.size, 0, none⟩ = some (.bool n.p) := r0.cell 0; rw [hp] at c0; have c1 : w0.cell? ⟨w.heap.size, 1, none⟩ = some (.int .i64 n.t) := r0.cell 1)
        | (refine ld_ntm rfl rfl rfl r0 ?_)
        | (refine eqM3 (n := M3.nul) rfl rfl rfl rfl ?_; rw [← HN.out])
        | (go_at_call 37; refine (Tmr.in_any _ _ _ _).mono ?_; rintro e w2 ⟨rfl, rfl⟩; rw [h0]))
      go_ret
      exact ⟨ret_bool (by rw [HO.out, hp, h0]; rfl), hB0⟩
theorem noteOk_impl (n : Nt) (w : World) : Calls Try.prog 16 #[n.val] w fun e w' => e = .returned (.bool n.ok) ∧ Below w.heap.size w w' := by
  obtain ⟨vv, hvv⟩ : ∃ vv, vv = n.val := ⟨_, rfl⟩
  rw [← hvv]
  have HO : Hid (n.ok = if n.p then inn n.t 0 1000000100 && n.m.isNul else n.t == 0 && n.m.ok) := show _ = _ from rfl
  cases hp : n.p
  · by_cases h0 : n.t = 0
    · go_enter Try.func16, Try.ntmps16
      go_wp2_with (first
        | (refine box_nt rfl rfl hvv ?_; intro w0 r0 hB0; have c0 : w0.cell? ⟨w.heap.size, 0, none⟩ = some (.bool n.p) := r0.cell 0; rw [hp] at c0; have c1 : w0.cell? ⟨w.heap.size, 1, none⟩ = some (.int .i64 n.t) := r0.cell 1; rw [h0] at c1)
        | (refine ld_ntm rfl rfl rfl r0 ?_)
        | (go_at_call 36; refine (msgWrong_impl n.m _).mono ?_; rintro e w2 ⟨rfl, hb2⟩))
      go_ret
      exact ⟨ret_bool (by rw [HO.out, hp, h0]; simp), below_more hB0 hb2⟩
    · have h1 : (n.t == 0) = false := by simpa using h0
      go_enter Try.func16, Try.ntmps16
      go_wp2_with (first
        | (refine box_nt rfl rfl hvv ?_; intro w0 r0 hB0; have c0 : w0.cell? ⟨w.heap.size, 0, none⟩ = some (.bool n.p) := r0.cell 0; rw [hp] at c0; have c1 : w0.cell? ⟨w.heap.size, 1, none⟩ = some (.int .i64 n.t) := r0.cell 1))
      go_ret
      exact ⟨ret_bool (by rw [HO.out, hp, h1]; rfl), hB0⟩
  · have HN : Hid (n.m.isNul = n.m.alike M3.nul) := show _ = _ from rfl
    cases h0 : inn n.t 0 1000000100
    · go_enter Try.func16, Try.ntmps16
      go_wp2_with (first
        | (refine box_nt rfl rfl hvv ?_; intro w0 r0 hB0; have c0 : w0.cell? ⟨w.heap.size, 0, none⟩ = some (.bool n.p) := r0.cell 0; rw [hp] at c0; have c1 : w0.cell? ⟨w.heap.size, 1, none⟩ = some (.int .i64 n.t) := r0.cell 1)
        | (go_at_call 35; refine (arrivalOk_impl _ _).mono ?_; rintro e w2 ⟨rfl, rfl⟩; rw [h0]))
      go_ret
      exact ⟨ret_bool (by rw [HO.out, hp, h0]; rfl), hB0⟩
    · go_enter Try.func16, Try.ntmps16
      go_wp2_with (first
        | (refine box_nt rfl rfl hvv ?_; intro w0 r0 hB0; have c0 : w0.cell? ⟨w.heap.size, 0, none⟩ = some (.bool n.p) := r0.cell 0; rw [hp] at c0; have c1 : w0.cell? ⟨w.heap.size, 1, none⟩ = some (.int .i64 n.t) := r0.cell 1)
        | (refine ld_ntm rfl rfl rfl r0 ?_)
        | (refine eqM3 (n := M3.nul) rfl rfl rfl rfl ?_; rw [← HN.out])
        | (go_at_call 35; refine (arrivalOk_impl _ _).mono ?_; rintro e w2 ⟨rfl, rfl⟩; rw [h0]))
      go_ret
      exact ⟨ret_bool (by rw [HO.out, hp, h0]; rfl), hB0⟩
end Go.Proofs.Ytggfjghcgacdnaa.Mem
