/-
  A machine: what stands in it, as the document tells it; whether it is right.
-/
import Derived.Test.YtjjafaikaghlgaaRow
import Derived.Test.YtjjafaikaghlgaaRom
import Derived.Test.YtjjafaikaghlgaaSrlI
namespace Go.Proofs.Ytjjafaikaghlgaa.Mem
open Go.ChangeShapes Go.WideShapes Go.RowKit Base Num Slc Rw Tmr Srl Rom RomOf
set_option linter.unusedVariables false
set_option maxRecDepth 20000

/-- A machine: rom, ram, A, B, Pc, Sp, zero, carry, enabled, halted, stuck, flags, mask, keys, timer, port, clock. -/
structure Mc where
  rom : List Int
  ram : List Int
  a : Int
  b : Int
  pc : Int
  sp : Int
  z : Bool
  c : Bool
  e : Bool
  h : Bool
  s : Bool
  fl : Int
  ms : Int
  ky : Int
  t : Tm
  p : Sr
  k : Int
def Mc.cells (vr va : Value) (m : Mc) : Array Value := #[vr, va, .int .i64 m.a, .int .i64 m.b, .int .i64 m.pc, .int .i64 m.sp, .bool m.z, .bool m.c, .bool m.e, .bool m.h, .bool m.s, .int .i64 m.fl, .int .i64 m.ms, .int .i64 m.ky,
  .int .i64 m.t.c, .int .i64 m.t.v, .int .i64 m.t.s, .int .i64 m.t.m, .int .i64 m.p.d, .bool m.p.b, .bool m.p.l, .int .i64 m.p.n, .int .i64 m.p.x, .bool m.p.t, .int .i64 m.k]
def Mc.val (vr va : Value) (m : Mc) : Value := .agg (m.cells vr va)
def Mc.nul : Mc := ⟨[], [], 0, 0, 0, 0, false, false, false, false, false, 0, 0, 0, Tm.nul, Sr.nul, 0⟩
def Mc.ok (m : Mc) : Bool := romOk m.rom && decide (m.ram.length = 64) && m.ram.all bok && bok m.a && bok m.b && bok m.pc && bok m.sp && inn m.fl 0 7 && inn m.ms 0 7 && bok m.ky && m.t.ok && m.p.ok && (m.k == m.t.c)
def Mc.fresh (rom : List Int) : Mc := ⟨rom, List.replicate 64 0, 0, 0, 0, 192, false, false, false, false, false, 0, 0, 0, Tm.nul, Sr.nul, 0⟩
def newMc (rom : List Int) : Mc := if romOk rom then Mc.fresh rom else Mc.nul
def flag (b : Bool) : Int := if b then 1 else 0
def Mc.read (m : Mc) (q : Int) : Int :=
  if q < 128 then (if q < m.rom.length then m.rom.getD q.toNat 0 else 255)
  else if q < 192 then m.ram.getD (q - 128).toNat 0
  else if q = 240 then m.p.d
  else if q = 241 then 128 * flag m.p.b + flag m.p.l
  else if q = 242 then m.t.c / 16 % 256
  else if q = 243 then m.t.v
  else if q = 244 then m.t.s
  else if q = 245 then m.t.m
  else if q = 246 then m.fl
  else if q = 247 then m.ms
  else if q = 248 then m.ky
  else 255
def Mc.readAt (m : Mc) (q : Int) : Int := if m.ok && bok q then m.read q else -1
def Mc.write (m : Mc) (q n : Int) : Mc :=
  if 128 ≤ q ∧ q < 192 then { m with ram := m.ram.set (q - 128).toNat n }
  else if q = 240 then { m with p := { m.p with d := n } }
  else if q = 241 then { m with p := if 127 < n then m.p.start (n % 2 == 1) m.k else ⟨m.p.d, false, false, 0, 0, false⟩ }
  else if q = 243 then { m with t := { m.t with v := n } }
  else if q = 244 then { m with t := { m.t with s := n } }
  else if q = 245 then { m with t := { m.t with m := n % 8 } }
  else if q = 246 then { m with fl := n % 8 }
  else if q = 247 then { m with ms := n % 8 }
  else m
def Mc.writtenAt (m : Mc) (q n : Int) : Mc := if m.ok && bok q && bok n then m.write q n else Mc.nul

theorem und_mc : ∃ fs, Try.prog.underlying 64 = some (.struct fs) := ⟨_, Try.underlying64⟩
theorem info_mc : (Try.prog.info? 64).map (·.size) = some 25 := by kernel_rfl
theorem Mc.size (vr va : Value) (m : Mc) : (m.cells vr va).size = 25 := rfl
theorem one_sl {w : World} {v : Value} {l : List Int} (h : Sl w v l) : v.oneCell' = true := by
  obtain ⟨a, cap, rfl, _⟩ := h; rfl
/-- The value v reads as the machine m. -/
def MSl (w : World) (v : Value) (m : Mc) : Prop := ∃ vr va, v = m.val vr va ∧ Sl w vr m.rom ∧ Sl w va m.ram
/-- The value v is a machine of a call's own: its lists are new memory, and share none. -/
def MOwn (base : Nat) (w : World) (v : Value) (m : Mc) : Prop := ∃ vr va, v = m.val vr va ∧ Own base w vr m.rom ∧ Own base w va m.ram ∧ ∀ k, vr.ownBlock = some k → va.ownBlock ≠ some k
theorem MOwn.sl {base : Nat} {w : World} {v : Value} {m : Mc} (h : MOwn base w v m) : MSl w v m := by
  obtain ⟨vr, va, rfl, h1, h2, _⟩ := h
  exact ⟨vr, va, rfl, h1.sl, h2.sl⟩
theorem MSl.below {w w' : World} {v : Value} {m : Mc} (h : MSl w v m) (hb : Below w.heap.size w w') : MSl w' v m := by
  obtain ⟨vr, va, rfl, h1, h2⟩ := h
  exact ⟨vr, va, rfl, h1.below hb, h2.below hb⟩
theorem MOwn.below {base : Nat} {w w' : World} {v : Value} {m : Mc} (h : MOwn base w v m) (hb : Below w.heap.size w w') : MOwn base w' v m := by
  obtain ⟨vr, va, rfl, h1, h2, h3⟩ := h
  exact ⟨vr, va, rfl, h1.below hb, h2.below hb, h3⟩
theorem MOwn.mono {base base' : Nat} {w : World} {v : Value} {m : Mc} (h : MOwn base w v m) (hb : base' ≤ base) : MOwn base' w v m := by
  obtain ⟨vr, va, rfl, h1, h2, h3⟩ := h
  exact ⟨vr, va, rfl, h1.mono hb, h2.mono hb, h3⟩
theorem nul_own (base : Nat) (w : World) : MOwn base w (Mc.nul.val (.slice none 0 0) (.slice none 0 0)) Mc.nul := ⟨_, _, rfl, Own.nil _ _, Own.nil _ _, by simp [Value.ownBlock]⟩
theorem Mc.ok_rom {m : Mc} (h : m.ok = true) : romOk m.rom = true ∧ m.ram.length = 64 ∧ m.t.ok = true ∧ m.p.ok = true ∧ m.k = m.t.c := by
  simp only [Mc.ok, Bool.and_eq_true, decide_eq_true_eq, beq_iff_eq] at h
  obtain ⟨⟨⟨⟨⟨⟨⟨⟨⟨⟨⟨⟨h1, h2⟩, _⟩, _⟩, _⟩, _⟩, _⟩, _⟩, _⟩, _⟩, h3⟩, h4⟩, h5⟩ := h
  exact ⟨h1, h2, h3, h4, h5⟩
theorem Mc.ok_parts {m : Mc} (h : m.ok = true) : (0 ≤ m.fl ∧ m.fl ≤ 7) ∧ (0 ≤ m.ms ∧ m.ms ≤ 7) := by
  simp only [Mc.ok, Bool.and_eq_true, decide_eq_true_eq, beq_iff_eq] at h
  obtain ⟨⟨⟨⟨⟨⟨⟨⟨⟨⟨⟨⟨_, _⟩, _⟩, _⟩, _⟩, _⟩, _⟩, h1⟩, h2⟩, _⟩, _⟩, _⟩, _⟩ := h
  exact ⟨inn_true h1, inn_true h2⟩
theorem romOk_len {l : List Int} (h : romOk l = true) : 2 ≤ l.length ∧ l.length ≤ 128 := by
  simp only [romOk, Bool.and_eq_true, decide_eq_true_eq] at h
  exact ⟨h.1.1.1, h.1.1.2⟩

theorem flagsOk_impl (n : Int) (w : World) :
    Calls Try.prog 61 #[.int .i64 n] w fun e w' => e = .returned (.bool (inn n 0 7)) ∧ w' = w := by
  by_cases h0 : 0 ≤ n
  · go_enter Try.func61, Try.ntmps61
    go_wp2
    go_ret
    exact ⟨ret_bool (by simp [inn, h0]; omega), rfl⟩
  · go_enter Try.func61, Try.ntmps61
    go_wp2
    go_ret
    exact ⟨ret_bool (by simp [inn]; omega), rfl⟩
/-- The cells of a machine, one by one. -/
structure Cs (cs : Array Value) (vr va : Value) (m : Mc) : Prop where
  vr : cs[0]? = some (vr)
  va : cs[1]? = some (va)
  a : cs[2]? = some (.int .i64 m.a)
  b : cs[3]? = some (.int .i64 m.b)
  pc : cs[4]? = some (.int .i64 m.pc)
  sp : cs[5]? = some (.int .i64 m.sp)
  z : cs[6]? = some (.bool m.z)
  c : cs[7]? = some (.bool m.c)
  e : cs[8]? = some (.bool m.e)
  h : cs[9]? = some (.bool m.h)
  s : cs[10]? = some (.bool m.s)
  fl : cs[11]? = some (.int .i64 m.fl)
  ms : cs[12]? = some (.int .i64 m.ms)
  ky : cs[13]? = some (.int .i64 m.ky)
  tc : cs[14]? = some (.int .i64 m.t.c)
  tv : cs[15]? = some (.int .i64 m.t.v)
  ts : cs[16]? = some (.int .i64 m.t.s)
  tm : cs[17]? = some (.int .i64 m.t.m)
  pd : cs[18]? = some (.int .i64 m.p.d)
  pb : cs[19]? = some (.bool m.p.b)
  pl : cs[20]? = some (.bool m.p.l)
  pn : cs[21]? = some (.int .i64 m.p.n)
  px : cs[22]? = some (.int .i64 m.p.x)
  pt : cs[23]? = some (.bool m.p.t)
  k : cs[24]? = some (.int .i64 m.k)
  tim : cs.extract 14 (14 + 4) = #[.int .i64 m.t.c, .int .i64 m.t.v, .int .i64 m.t.s, .int .i64 m.t.m]
  ser : cs.extract 18 (18 + 6) = #[.int .i64 m.p.d, .bool m.p.b, .bool m.p.l, .int .i64 m.p.n, .int .i64 m.p.x, .bool m.p.t]
  size : cs.size = 25
theorem Cs.of (vr va : Value) (m : Mc) : Cs (m.cells vr va) vr va m := ⟨rfl, rfl, rfl, rfl, rfl, rfl, rfl, rfl, rfl, rfl, rfl, rfl, rfl, rfl, rfl, rfl, rfl, rfl, rfl, rfl, rfl, rfl, rfl, rfl, rfl, rfl, rfl, rfl⟩
theorem Mc.open (vr va : Value) (m : Mc) : ∃ cs, m.val vr va = .agg cs ∧ m.cells vr va = cs ∧ Cs cs vr va m := ⟨_, rfl, rfl, Cs.of _ _ _⟩
section
variable {ops : Array Oper} {rest : List Oper} {o : Oper} {a : Act} {w : World} {Q : Exit → Act → World → Prop} {x : Operand} {g k : Nat} {cs : Array Value} {T : TypeId} {v : Value}
theorem ld_at {ty : TypeId} {d : TypeDesc} (hgd : o.guard = none) (ho : o.op = .load ty x) (hx : a.eval x = .pointer (some ⟨g, k, none⟩)) (hr : Row w g cs T) (hc : cs[k]? = some v) (hu : Try.prog.underlying ty = some d) (hd : d.isRow = false)
    (h : wpList Try.prog ops Q rest (a.put o.dst v) w) : wpList Try.prog ops Q (o :: rest) a w :=
  wpList_plain hgd fun _ hK => by
    have e : (loadVar ty ⟨g, k, none⟩).run Try.prog w = .ok v w := by
      have hcell : w.cell? ⟨g, k, none⟩ = some v := (hr.cell k).trans hc
      cases d <;> first | (simp [TypeDesc.isRow] at hd; done) | simp [loadVar, isAgg, run_underlying hu, run_load, hcell]
    unfold Oper.wp execOp
    simp only [ho, hx, Instr.loadAt, Instr.sureAddr, Sem.run_bind, Sem.run_pure, Result.andThen_ok, e]
    exact hK _ _ h
theorem ld_i (hgd : o.guard = none) (ho : o.op = .load 2 x) (hx : a.eval x = .pointer (some ⟨g, k, none⟩)) (hr : Row w g cs T) (hc : cs[k]? = some v) (h : wpList Try.prog ops Q rest (a.put o.dst v) w) : wpList Try.prog ops Q (o :: rest) a w :=
  ld_at hgd ho hx hr hc Try.underlying2 rfl h
theorem ld_b (hgd : o.guard = none) (ho : o.op = .load 4 x) (hx : a.eval x = .pointer (some ⟨g, k, none⟩)) (hr : Row w g cs T) (hc : cs[k]? = some v) (h : wpList Try.prog ops Q rest (a.put o.dst v) w) : wpList Try.prog ops Q (o :: rest) a w :=
  ld_at hgd ho hx hr hc Try.underlying4 rfl h
theorem ld_s (hgd : o.guard = none) (ho : o.op = .load 37 x) (hx : a.eval x = .pointer (some ⟨g, k, none⟩)) (hr : Row w g cs T) (hc : cs[k]? = some v) (h : wpList Try.prog ops Q rest (a.put o.dst v) w) : wpList Try.prog ops Q (o :: rest) a w :=
  ld_at hgd ho hx hr hc Try.underlying37 rfl h
theorem ld_t {m : Mc} {vr va : Value} (hgd : o.guard = none) (ho : o.op = .load 60 x) (hx : a.eval x = .pointer (some ⟨g, 14, none⟩)) (hr : Row w g cs T) (hk : Cs cs vr va m) (h : wpList Try.prog ops Q rest (a.put o.dst m.t.val) w) : wpList Try.prog ops Q (o :: rest) a w :=
  ld_in (cs' := #[.int .i64 m.t.c, .int .i64 m.t.v, .int .i64 m.t.s, .int .i64 m.t.m]) hgd ho hx hr Try.underlying60 rfl hk.tim (by kernel_rfl) h
theorem ld_p {m : Mc} {vr va : Value} (hgd : o.guard = none) (ho : o.op = .load 62 x) (hx : a.eval x = .pointer (some ⟨g, 18, none⟩)) (hr : Row w g cs T) (hk : Cs cs vr va m) (h : wpList Try.prog ops Q rest (a.put o.dst m.p.val) w) : wpList Try.prog ops Q (o :: rest) a w :=
  ld_in (cs' := #[.int .i64 m.p.d, .bool m.p.b, .bool m.p.l, .int .i64 m.p.n, .int .i64 m.p.x, .bool m.p.t]) hgd ho hx hr Try.underlying62 rfl hk.ser (by kernel_rfl) h
/-- A machine that came in is laid into a block of its own. -/
theorem box_mc {vr va : Value} {m : Mc} (hgd : o.guard = none) (ho : o.op = .box 64 x) (hx : a.eval x = .agg cs) (hk : Cs cs vr va m)
    (h : ∀ w', Row w' w.heap.size cs 64 → Below w.heap.size w w' → wpList Try.prog ops Q rest (a.put o.dst (.pointer (some ⟨w.heap.size, 0, none⟩))) w') : wpList Try.prog ops Q (o :: rest) a w :=
  wpList_plain hgd fun _ hK => by
    have e : (Instr.box 64 (.agg cs)).run Try.prog w = .ok (.pointer (some ⟨w.heap.size, 0, none⟩)) (w.alloc (.cells cs 64)) := rfl
    unfold Oper.wp execOp
    simp only [ho, hx, Sem.run_bind, Result.andThen_ok, e]
    exact hK _ _ (h _ (Row.new _ _ _) ((Below.refl _ _).alloc (Nat.le_refl _) _))
end
/-- The cells of a machine in its block. -/
structure Cw (w : World) (g : Nat) (vr va : Value) (m : Mc) : Prop where
  vr : w.cell? ⟨g, 0, none⟩ = some (vr)
  va : w.cell? ⟨g, 1, none⟩ = some (va)
  a : w.cell? ⟨g, 2, none⟩ = some (.int .i64 m.a)
  b : w.cell? ⟨g, 3, none⟩ = some (.int .i64 m.b)
  pc : w.cell? ⟨g, 4, none⟩ = some (.int .i64 m.pc)
  sp : w.cell? ⟨g, 5, none⟩ = some (.int .i64 m.sp)
  z : w.cell? ⟨g, 6, none⟩ = some (.bool m.z)
  c : w.cell? ⟨g, 7, none⟩ = some (.bool m.c)
  e : w.cell? ⟨g, 8, none⟩ = some (.bool m.e)
  h : w.cell? ⟨g, 9, none⟩ = some (.bool m.h)
  s : w.cell? ⟨g, 10, none⟩ = some (.bool m.s)
  fl : w.cell? ⟨g, 11, none⟩ = some (.int .i64 m.fl)
  ms : w.cell? ⟨g, 12, none⟩ = some (.int .i64 m.ms)
  ky : w.cell? ⟨g, 13, none⟩ = some (.int .i64 m.ky)
  tc : w.cell? ⟨g, 14, none⟩ = some (.int .i64 m.t.c)
  tv : w.cell? ⟨g, 15, none⟩ = some (.int .i64 m.t.v)
  ts : w.cell? ⟨g, 16, none⟩ = some (.int .i64 m.t.s)
  tm : w.cell? ⟨g, 17, none⟩ = some (.int .i64 m.t.m)
  pd : w.cell? ⟨g, 18, none⟩ = some (.int .i64 m.p.d)
  pb : w.cell? ⟨g, 19, none⟩ = some (.bool m.p.b)
  pl : w.cell? ⟨g, 20, none⟩ = some (.bool m.p.l)
  pn : w.cell? ⟨g, 21, none⟩ = some (.int .i64 m.p.n)
  px : w.cell? ⟨g, 22, none⟩ = some (.int .i64 m.p.x)
  pt : w.cell? ⟨g, 23, none⟩ = some (.bool m.p.t)
  k : w.cell? ⟨g, 24, none⟩ = some (.int .i64 m.k)
theorem Cs.at {w : World} {g : Nat} {cs : Array Value} {T : TypeId} {vr va : Value} {m : Mc} (hk : Cs cs vr va m) (hr : Row w g cs T) : Cw w g vr va m :=
  ⟨(hr.cell 0).trans hk.vr, (hr.cell 1).trans hk.va, (hr.cell 2).trans hk.a, (hr.cell 3).trans hk.b, (hr.cell 4).trans hk.pc, (hr.cell 5).trans hk.sp, (hr.cell 6).trans hk.z, (hr.cell 7).trans hk.c, (hr.cell 8).trans hk.e, (hr.cell 9).trans hk.h, (hr.cell 10).trans hk.s, (hr.cell 11).trans hk.fl, (hr.cell 12).trans hk.ms, (hr.cell 13).trans hk.ky, (hr.cell 14).trans hk.tc, (hr.cell 15).trans hk.tv, (hr.cell 16).trans hk.ts, (hr.cell 17).trans hk.tm, (hr.cell 18).trans hk.pd, (hr.cell 19).trans hk.pb, (hr.cell 20).trans hk.pl, (hr.cell 21).trans hk.pn, (hr.cell 22).trans hk.px, (hr.cell 23).trans hk.pt, (hr.cell 24).trans hk.k⟩
end Go.Proofs.Ytjjafaikaghlgaa.Mem
