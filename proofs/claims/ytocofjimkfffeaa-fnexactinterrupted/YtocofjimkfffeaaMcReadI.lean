/-
  What the program reads at a place.
-/
import Derived.Test.YtocofjimkfffeaaMcRead
import Derived.Test.YtocofjimkfffeaaMcOkI
import Derived.Test.YtocofjimkfffeaaPorts
namespace Go.Proofs.Ytocofjimkfffeaa.Mem
open Go.ChangeShapes Go.WideShapes Go.RowKit Base Num Slc Rw Tmr Srl Rom RomOf Mp
set_option linter.unusedVariables false
set_option linter.unusedSimpArgs false

theorem inRam_impl (q : Int) (w : World) :
    Calls Try.prog 67 #[.int .i64 q] w fun e w' => e = .returned (.bool (decide (128 ≤ q) && decide (q < 192))) ∧ w' = w := by
  by_cases h0 : 128 ≤ q
  · go_enter Try.func67, Try.ntmps67
    go_wp2
    go_ret
    exact ⟨ret_bool (by simp [h0]), rfl⟩
  · go_enter Try.func67, Try.ntmps67
    go_wp2
    go_ret
    exact ⟨ret_bool (by have : decide (128 ≤ q) = false := by simpa using h0
                        rw [this]; rfl), rfl⟩
theorem zero64 (w : World) : (zeroValue 2).run Try.prog w = .ok (.int .i64 0) w := by simp [go_sem]
theorem PortsAt.below {w w' : World} {b : Nat} {f : Int → Option Int} (h : PortsAt w b f) (hb : Below w.heap.size w w') : PortsAt w' b f := by
  obtain ⟨L, h1, h2⟩ := h
  exact ⟨L, h1.below hb, h2⟩
theorem PortsAt.onto {w w' : World} {b p : Nat} {f : Int → Option Int} (h : PortsAt w b f) (ho : Onto p w w') (hp : b ≠ p) : PortsAt w' b f := by
  obtain ⟨L, h1, h2⟩ := h
  exact ⟨L, h1.onto ho hp, h2⟩
theorem PortsAt.lt {w : World} {b : Nat} {f : Int → Option Int} (h : PortsAt w b f) : b < w.heap.size := by
  obtain ⟨L, h1, h2⟩ := h
  exact h1.lt
section
variable {ops : Array Oper} {rest : List Oper} {o : Oper} {a : Act} {w : World} {Q : Exit → Act → World → Prop} {x y z : Operand} {b : Nat} {q n : Int} {f : Int → Option Int}
theorem lk_ok (hgd : o.guard = none) (ho : o.op = .lookup 84 x y true) (hx : a.eval x = .map (some b)) (hy : a.eval y = .int .i64 q) (hM : PortsAt w b f)
    (h : wpList Try.prog ops Q rest (a.put o.dst (.tuple #[.int .i64 ((f q).getD 0), .bool (f q).isSome])) w) : wpList Try.prog ops Q (o :: rest) a w :=
  wpList_plain hgd fun _ hK => by
    obtain ⟨L, h1, _, h3⟩ := hM
    have e := (run_get (P := Try.prog) und_map Try.underlying2 (zero64 w) h1 q).2
    rw [h3] at e
    unfold Oper.wp execOp
    simp only [ho, hx, hy, Sem.run_bind, Result.andThen_ok, e]
    exact hK _ _ h
theorem lk_at (hgd : o.guard = none) (ho : o.op = .lookup 84 x y false) (hx : a.eval x = .map (some b)) (hy : a.eval y = .int .i64 q) (hM : PortsAt w b f)
    (h : wpList Try.prog ops Q rest (a.put o.dst (.int .i64 ((f q).getD 0))) w) : wpList Try.prog ops Q (o :: rest) a w :=
  wpList_plain hgd fun _ hK => by
    obtain ⟨L, h1, _, h3⟩ := hM
    have e := (run_get (P := Try.prog) und_map Try.underlying2 (zero64 w) h1 q).1
    rw [h3] at e
    unfold Oper.wp execOp
    simp only [ho, hx, hy, Sem.run_bind, Result.andThen_ok, e]
    exact hK _ _ h
theorem put_at (hgd : o.guard = none) (ho : o.op = .mapUpdate 84 x y z) (hx : a.eval x = .map (some b)) (hy : a.eval y = .int .i64 q) (hz : a.eval z = .int .i64 n) (hM : PortsAt w b f)
    (h : ∀ w', PortsAt w' b (fun k => if k = q then some n else f k) → Onto b w w' → wpList Try.prog ops Q rest (a.put o.dst undef) w') : wpList Try.prog ops Q (o :: rest) a w :=
  wpList_plain hgd fun _ hK => by
    obtain ⟨L, h1, h2, h3⟩ := hM
    obtain ⟨w', hr, m1, m2, m3⟩ := run_put (P := Try.prog) und_map Try.underlying2 h1 q n
    unfold Oper.wp execOp
    simp only [ho, hx, hy, hz, Sem.run_bind, Result.andThen_ok, hr]
    exact hK _ _ (h _ ⟨_, m1, Reg.mput_one L q n h2, fun k => by rw [mget_mput, h3]⟩ m2)
end
theorem read_port {m : Mc} {q : Int} (hR : Right m) (h1 : ¬ q < m.rom.length) (h2 : ¬ (128 ≤ q ∧ q < 192)) (h0 : 0 ≤ q) : m.read q = (m.port q).getD 255 := by
  have := hR.rom
  by_cases h : q < 128
  · have e : m.port q = none := by
      unfold Mc.port
      rw [if_neg (by omega), if_neg (by omega), if_neg (by omega), if_neg (by omega), if_neg (by omega), if_neg (by omega), if_neg (by omega), if_neg (by omega), if_neg (by omega)]
    rw [e]
    simp [Mc.read, h, h1]
  · have h3 : ¬ q < 192 := by omega
    simp only [Mc.read, h, h3, if_false, Mc.port]
    by_cases e0 : q = 240
    · simp [e0]
    by_cases e1 : q = 241
    · simp [e1, cable]
    by_cases e2 : q = 242
    · simp [e2]
    by_cases e3 : q = 243
    · simp [e3]
    by_cases e4 : q = 244
    · simp [e4]
    by_cases e5 : q = 245
    · simp [e5]
    by_cases e6 : q = 246
    · simp [e6]
    by_cases e7 : q = 247
    · simp [e7]
    by_cases e8 : q = 248
    · simp [e8]
    simp [e0, e1, e2, e3, e4, e5, e6, e7, e8]
end Go.Proofs.Ytocofjimkfffeaa.Mem
