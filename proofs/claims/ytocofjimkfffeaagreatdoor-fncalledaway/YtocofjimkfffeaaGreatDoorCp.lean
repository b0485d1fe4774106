/-
  The processor, as the document tells it: what an operation does to a right machine; a right machine stays right. What FnExecuted asks of the processor: where there is no such code there is no name, and none elsewhere; what is answered then, and where a machine is idle.
-/
import Derived.Test.YtocofjimkfffeaaGreatDoorMcWriteI
import Derived.Test.YtocofjimkfffeaaGreatDoorOp
namespace Go.Proofs.YtocofjimkfffeaaGreatDoor.Mem
open Go.ChangeShapes Go.WideShapes Go.RowKit Base Num Slc Rw Tmr Srl Rom RomOf Opl
set_option linter.unusedVariables false
set_option linter.unusedSimpArgs false

/-- What went out, by a byte n that goes to the place q. -/
def outs (q n : Int) : Int := if q = 249 then n else -1
def Mc.psh (m : Mc) (n : Int) : Mc := ({ m with sp := (m.sp + 255) % 256 } : Mc).write ((m.sp + 255) % 256) n
def Mc.pshOut (m : Mc) (n : Int) : Int := outs ((m.sp + 255) % 256) n
def Mc.popd (m : Mc) : Mc := { m with sp := (m.sp + 1) % 256 }
def Mc.top (m : Mc) : Int := m.read m.sp
def Mc.alu (m : Mc) (x : Int) (c : Bool) : Mc := { m with a := x, z := x == 0, c := c }
def Mc.cmp (m : Mc) (x : Int) (c : Bool) : Mc := { m with z := x == 0, c := c }
def Mc.cntB (m : Mc) (x : Int) : Mc := { m with b := x, z := x == 0, c := false }
def Mc.jmp (m : Mc) (n : Int) (is : Bool) : Mc := if is then { m with pc := n } else m
/-- What the operation of a code does, n being the byte behind it, and what goes out. -/
def Mc.does (m : Mc) (n : Int) : Nat → Mc × Int
  | 1 => ({ m with a := n }, -1)
  | 2 => ({ m with b := n }, -1)
  | 3 => ({ m with a := m.b }, -1)
  | 4 => ({ m with b := m.a }, -1)
  | 5 => ({ m with a := m.read n }, -1)
  | 6 => (m.write n m.a, outs n m.a)
  | 7 => ({ m with a := m.read m.b }, -1)
  | 8 => (m.write m.b m.a, outs m.b m.a)
  | 9 => (m.alu (addB m.a n) (addC m.a n), -1)
  | 10 => (m.alu (addB m.a m.b) (addC m.a m.b), -1)
  | 11 => (m.alu (subB m.a n) (subC m.a n), -1)
  | 12 => (m.cmp (subB m.a n) (subC m.a n), -1)
  | 13 => (m.alu (bits .and .i64 m.a n) false, -1)
  | 14 => (m.alu (bits .xor .i64 m.a n) false, -1)
  | 15 => (m.alu (turnLB m.a) (turnLC m.a), -1)
  | 16 => (m.alu (turnRB m.a) (turnRC m.a), -1)
  | 17 => (m.cntB (addB m.b 1), -1)
  | 18 => (m.cntB (subB m.b 1), -1)
  | 19 => (m.jmp n true, -1)
  | 20 => (m.jmp n m.z, -1)
  | 21 => (m.jmp n (!m.z), -1)
  | 22 => (m.jmp n m.c, -1)
  | 23 => ({ m.psh m.pc with pc := n }, m.pshOut m.pc)
  | 24 => ({ m.popd with pc := m.top }, -1)
  | 25 => (m.psh m.a, m.pshOut m.a)
  | 26 => ({ m.popd with a := m.top }, -1)
  | 27 => ({ m with e := true }, -1)
  | 28 => ({ m with e := false }, -1)
  | 29 => ({ m.popd with pc := m.top, e := true }, -1)
  | 30 => ({ m with h := true }, -1)
  | _ => (m, -1)
/-- The code at Pc, its size, the byte behind it, the machine whose Pc has gone on. -/
def Mc.code (m : Mc) : Int := m.read m.pc
def Mc.size' (m : Mc) : Int := (line m.code).2.1
def Mc.opnd (m : Mc) : Int := m.read ((m.pc + 1) % 256)
def Mc.onw (m : Mc) : Mc := { m with pc := (m.pc + m.size') % 256 }
def Mc.exec (m : Mc) : Mc × Int × Int :=
  if m.h || m.s then (m, 1, -1) else if m.size' = 0 then ({ m with s := true }, 1, -1)
  else ((m.onw.does m.opnd m.code.toNat).1, (line m.code).2.2, (m.onw.does m.opnd m.code.toNat).2)
def Mc.execd (m : Mc) : Mc × Int × Int := if m.ok then m.exec else (Mc.nul, 0, -1)

/-! What is right stays right. -/
structure Okm (m : Mc) : Prop where
  rom : romOk m.rom = true
  len : m.ram.length = 64
  ram : m.ram.all bok = true
  a : bok m.a = true
  b : bok m.b = true
  pc : bok m.pc = true
  sp : bok m.sp = true
  fl : inn m.fl 0 7 = true
  ms : inn m.ms 0 7 = true
  ky : bok m.ky = true
  t : m.t.ok = true
  p : m.p.ok = true
  k : m.k = m.t.c
theorem okm {m : Mc} : m.ok = true ↔ Okm m := by
  constructor
  · intro h
    simp only [Mc.ok, Bool.and_eq_true, decide_eq_true_eq, beq_iff_eq] at h
    obtain ⟨⟨⟨⟨⟨⟨⟨⟨⟨⟨⟨⟨h1, h2⟩, h3⟩, h4⟩, h5⟩, h6⟩, h7⟩, h8⟩, h9⟩, h10⟩, h11⟩, h12⟩, h13⟩ := h
    exact ⟨h1, h2, h3, h4, h5, h6, h7, h8, h9, h10, h11, h12, h13⟩
  · rintro ⟨h1, h2, h3, h4, h5, h6, h7, h8, h9, h10, h11, h12, h13⟩
    simp only [Mc.ok, Bool.and_eq_true, decide_eq_true_eq, beq_iff_eq]
    exact ⟨⟨⟨⟨⟨⟨⟨⟨⟨⟨⟨⟨h1, h2⟩, h3⟩, h4⟩, h5⟩, h6⟩, h7⟩, h8⟩, h9⟩, h10⟩, h11⟩, h12⟩, h13⟩
theorem bok_iff {n : Int} : bok n = true ↔ 0 ≤ n ∧ n ≤ 255 := by simp [bok]
theorem bok_mod (n : Int) : bok (n % 256) = true := bok_iff.2 (by omega)
theorem getD_bok {l : List Int} (h : l.all bok = true) {i : Nat} (hi : i < l.length) : bok (l.getD i 0) = true := by
  rw [List.getD_eq_getElem?_getD, List.getElem?_eq_getElem hi]
  exact List.all_eq_true.1 h _ (List.getElem_mem hi)
theorem read_ok {m : Mc} (h : m.ok = true) (q : Int) (hq : 0 ≤ q) : bok (m.read q) = true := by
  have h0 := h
  obtain ⟨h1, h2, h3, h4, h5, h6, h7⟩ := Mc.ok_more h0
  have hk := okm.1 h
  have hrom : m.rom.all bok = true := by
    have := hk.rom
    simp only [romOk, Bool.and_eq_true] at this
    exact this.1.2
  unfold Mc.read
  by_cases e1 : q < 128
  · rw [if_pos e1]
    by_cases e2 : q < m.rom.length
    · rw [if_pos e2]; exact getD_bok hrom (by omega)
    · rw [if_neg e2]; rfl
  rw [if_neg e1]
  by_cases e2 : q < 192
  · rw [if_pos e2]; exact getD_bok hk.ram (by have := hk.len; omega)
  rw [if_neg e2]
  refine bok_iff.2 ?_
  have hf : ∀ b : Bool, 0 ≤ flag b ∧ flag b ≤ 1 := fun b => by cases b <;> simp [flag]
  have f1 := hf m.p.b
  have f2 := hf m.p.l
  repeat' split
  all_goals omega
theorem start_ok {s : Sr} (h : s.ok = true) (lead : Bool) (now : Int) : (s.start lead now).ok = true := by
  unfold Sr.start
  by_cases hs : s.starts lead now = true
  · rw [if_pos hs]
    have hd : bok s.d = true := by simp only [Sr.ok, Bool.and_eq_true] at h; exact h.1.1.1.1
    simp only [Sr.starts, Bool.and_eq_true] at hs
    cases lead
    · simp [Sr.ok, hd, clk, inn]
    · have := inn_true hs.2
      simp at this
      simp [Sr.ok, hd, clk, inn]
      omega
  · rw [if_neg hs]; rfl
theorem write_ok {m : Mc} (h : m.ok = true) (q n : Int) (hn : bok n = true) : (m.write q n).ok = true := by
  have hk := okm.1 h
  have hn' := bok_iff.1 hn
  have h8 : inn (n % 8) 0 7 = true := by simp [inn]; omega
  unfold Mc.write
  by_cases c : 128 ≤ q ∧ q < 192
  · rw [if_pos c]
    refine okm.2 { hk with len := by simpa using hk.len, ram := ?_ }
    rw [List.all_eq_true]
    intro x hx
    rcases List.mem_or_eq_of_mem_set hx with h | h
    · exact List.all_eq_true.1 hk.ram x h
    · rw [h]; exact hn
  rw [if_neg c]
  have hp := hk.p
  by_cases c0 : q = 240
  · rw [if_pos c0]
    refine okm.2 { hk with p := ?_ }
    simp only [Sr.ok, Bool.and_eq_true] at hp ⊢
    exact ⟨⟨⟨⟨hn, hp.1.1.1.2⟩, hp.1.1.2⟩, hp.1.2⟩, hp.2⟩
  rw [if_neg c0]
  by_cases c1 : q = 241
  · rw [if_pos c1]
    refine okm.2 { hk with p := ?_ }
    show (if 127 < n then m.p.start (n % 2 == 1) m.k else ⟨m.p.d, false, false, 0, 0, false⟩ : Sr).ok = true
    by_cases c2 : 127 < n
    · rw [if_pos c2]; exact start_ok hp _ _
    · rw [if_neg c2]
      have hd : bok m.p.d = true := by simp only [Sr.ok, Bool.and_eq_true] at hp; exact hp.1.1.1.1
      simp [Sr.ok, hd, clk, inn]
  rw [if_neg c1]
  have ht := hk.t
  simp only [Tm.ok, Bool.and_eq_true] at ht
  by_cases c3 : q = 243
  · rw [if_pos c3]
    refine okm.2 { hk with t := ?_ }
    simp only [Tm.ok, Bool.and_eq_true]
    exact ⟨⟨⟨ht.1.1.1, hn⟩, ht.1.2⟩, ht.2⟩
  rw [if_neg c3]
  by_cases c4 : q = 244
  · rw [if_pos c4]
    refine okm.2 { hk with t := ?_ }
    simp only [Tm.ok, Bool.and_eq_true]
    exact ⟨⟨⟨ht.1.1.1, ht.1.1.2⟩, hn⟩, ht.2⟩
  rw [if_neg c4]
  by_cases c5 : q = 245
  · rw [if_pos c5]
    refine okm.2 { hk with t := ?_ }
    simp only [Tm.ok, Bool.and_eq_true]
    exact ⟨⟨⟨ht.1.1.1, ht.1.1.2⟩, ht.1.2⟩, h8⟩
  rw [if_neg c5]
  by_cases c6 : q = 246
  · rw [if_pos c6]; exact okm.2 { hk with fl := h8 }
  rw [if_neg c6]
  by_cases c7 : q = 247
  · rw [if_pos c7]; exact okm.2 { hk with ms := h8 }
  rw [if_neg c7]
  exact h
theorem write_out (m : Mc) (n : Int) : m.write 249 n = m := by simp [Mc.write]
theorem write_rest (m : Mc) (q n : Int) : (m.write q n).k = m.k ∧ (m.write q n).t.c = m.t.c := by
  unfold Mc.write
  repeat' split
  all_goals exact ⟨rfl, rfl⟩
theorem ok_sp {m : Mc} (h : m.ok = true) (n : Int) : ({ m with sp := n % 256 } : Mc).ok = true := okm.2 { okm.1 h with sp := bok_mod n }
theorem ok_pc {m : Mc} (h : m.ok = true) {n : Int} (hn : bok n = true) : ({ m with pc := n } : Mc).ok = true := okm.2 { okm.1 h with pc := hn }
theorem ok_a {m : Mc} (h : m.ok = true) {n : Int} (hn : bok n = true) : ({ m with a := n } : Mc).ok = true := okm.2 { okm.1 h with a := hn }
theorem psh_ok {m : Mc} (h : m.ok = true) {n : Int} (hn : bok n = true) : (m.psh n).ok = true := write_ok (ok_sp h _) _ _ hn
theorem popd_ok {m : Mc} (h : m.ok = true) : m.popd.ok = true := ok_sp h _
theorem top_ok {m : Mc} (h : m.ok = true) : bok m.top = true := read_ok h _ (bok_iff.1 (okm.1 h).sp).1
theorem alu_ok {m : Mc} (h : m.ok = true) {n : Int} (hn : bok n = true) (c : Bool) : (m.alu n c).ok = true := okm.2 { okm.1 h with a := hn }
theorem cmp_ok {m : Mc} (h : m.ok = true) (n : Int) (c : Bool) : (m.cmp n c).ok = true := okm.2 { okm.1 h with }
theorem cntB_ok {m : Mc} (h : m.ok = true) {n : Int} (hn : bok n = true) : (m.cntB n).ok = true := okm.2 { okm.1 h with b := hn }
theorem jmp_ok {m : Mc} (h : m.ok = true) {n : Int} (hn : bok n = true) (c : Bool) : (m.jmp n c).ok = true := by
  cases c
  · exact h
  · exact ok_pc h hn
theorem jmp_rest (m : Mc) (n : Int) (c : Bool) : (m.jmp n c).k = m.k ∧ (m.jmp n c).t.c = m.t.c := by cases c <;> exact ⟨rfl, rfl⟩
theorem addB_ok (a b : Int) : bok (addB a b) = true := by
  unfold addB; split
  · exact bok_mod _
  · rfl
theorem subB_ok (a b : Int) : bok (subB a b) = true := by
  unfold subB; split
  · exact bok_mod _
  · rfl
theorem turnLB_ok (a : Int) : bok (turnLB a) = true := by
  unfold turnLB; split
  · rename_i h; have := bok_iff.1 h; exact bok_iff.2 (by omega)
  · rfl
theorem turnRB_ok (a : Int) : bok (turnRB a) = true := by
  unfold turnRB; split
  · rename_i h; have := bok_iff.1 h; exact bok_iff.2 (by omega)
  · rfl
theorem and_ok {a n : Int} (hn : bok n = true) : bok (bits .and .i64 a n) = true := by
  have hn' := bok_iff.1 hn
  have := and_mask a n hn'.1 (by omega)
  exact bok_iff.2 (by omega)
theorem xor_ok {a n : Int} (ha : bok a = true) (hn : bok n = true) : bok (bits .xor .i64 a n) = true := by
  have ha' := bok_iff.1 ha
  have hn' := bok_iff.1 hn
  have h1 : (BitVec.ofInt 64 a).toNat = a.toNat := by rw [BitVec.toNat_ofInt]; omega
  have h2 : (BitVec.ofInt 64 n).toNat = n.toNat := by rw [BitVec.toNat_ofInt]; omega
  have hle : (BitVec.ofInt 64 a ^^^ BitVec.ofInt 64 n).toNat < 256 := by
    rw [BitVec.toNat_xor, h1, h2]
    exact Nat.xor_lt_two_pow (n := 8) (by omega) (by omega)
  show bok (IntKind.i64.wrap ((BitVec.ofInt 64 a ^^^ BitVec.ofInt 64 n).toNat : Int)) = true
  generalize (BitVec.ofInt 64 a ^^^ BitVec.ofInt 64 n).toNat = r at hle
  have e : IntKind.i64.wrap (r : Int) = (r : Int) := by
    simp [IntKind.wrap, IntKind.bits, IntKind.signed]
    omega
  rw [e]
  exact bok_iff.2 (by omega)
/-- A machine that is right, whose clock and count are those of m. -/
def Like (m x : Mc) : Prop := x.ok = true ∧ x.k = m.k ∧ x.t.c = m.t.c
theorem does_like {m : Mc} (h : m.ok = true) {n : Int} (hn : bok n = true) (k : Nat) : Like m (m.does n k).1 := by
  have hk := okm.1 h
  have hb := read_ok h m.b (bok_iff.1 hk.b).1
  have hr := read_ok h n (bok_iff.1 hn).1
  have ht := top_ok h
  match k with
  | 0 => exact ⟨h, rfl, rfl⟩
  | 1 => exact ⟨ok_a h hn, rfl, rfl⟩
  | 2 => exact ⟨okm.2 { hk with b := hn }, rfl, rfl⟩
  | 3 => exact ⟨ok_a h hk.b, rfl, rfl⟩
  | 4 => exact ⟨okm.2 { hk with b := hk.a }, rfl, rfl⟩
  | 5 => exact ⟨ok_a h hr, rfl, rfl⟩
  | 6 => exact ⟨write_ok h _ _ hk.a, write_rest _ _ _⟩
  | 7 => exact ⟨ok_a h hb, rfl, rfl⟩
  | 8 => exact ⟨write_ok h _ _ hk.a, write_rest _ _ _⟩
  | 9 => exact ⟨alu_ok h (addB_ok _ _) _, rfl, rfl⟩
  | 10 => exact ⟨alu_ok h (addB_ok _ _) _, rfl, rfl⟩
  | 11 => exact ⟨alu_ok h (subB_ok _ _) _, rfl, rfl⟩
  | 12 => exact ⟨cmp_ok h _ _, rfl, rfl⟩
  | 13 => exact ⟨alu_ok h (and_ok hn) _, rfl, rfl⟩
  | 14 => exact ⟨alu_ok h (xor_ok hk.a hn) _, rfl, rfl⟩
  | 15 => exact ⟨alu_ok h (turnLB_ok _) _, rfl, rfl⟩
  | 16 => exact ⟨alu_ok h (turnRB_ok _) _, rfl, rfl⟩
  | 17 => exact ⟨cntB_ok h (addB_ok _ _), rfl, rfl⟩
  | 18 => exact ⟨cntB_ok h (subB_ok _ _), rfl, rfl⟩
  | 19 => exact ⟨jmp_ok h hn _, rfl, rfl⟩
  | 20 => exact ⟨jmp_ok h hn _, jmp_rest _ _ _⟩
  | 21 => exact ⟨jmp_ok h hn _, jmp_rest _ _ _⟩
  | 22 => exact ⟨jmp_ok h hn _, jmp_rest _ _ _⟩
  | 23 => exact ⟨ok_pc (psh_ok h hk.pc) hn, write_rest _ _ _⟩
  | 24 => exact ⟨ok_pc (popd_ok h) ht, rfl, rfl⟩
  | 25 => exact ⟨psh_ok h hk.a, write_rest _ _ _⟩
  | 26 => exact ⟨ok_a (popd_ok h) ht, rfl, rfl⟩
  | 27 => exact ⟨okm.2 { hk with }, rfl, rfl⟩
  | 28 => exact ⟨okm.2 { hk with }, rfl, rfl⟩
  | 29 => exact ⟨okm.2 { okm.1 (popd_ok h) with pc := ht }, rfl, rfl⟩
  | 30 => exact ⟨okm.2 { hk with }, rfl, rfl⟩
  | k + 31 => exact ⟨h, rfl, rfl⟩
theorem code_ok {m : Mc} (h : m.ok = true) : bok m.code = true := read_ok h _ (bok_iff.1 (okm.1 h).pc).1
theorem opnd_ok {m : Mc} (h : m.ok = true) : bok m.opnd = true := read_ok h _ (by omega)
theorem onw_ok {m : Mc} (h : m.ok = true) : m.onw.ok = true := ok_pc h (bok_mod _)
theorem exec_like {m : Mc} (h : m.ok = true) : Like m m.exec.1 := by
  unfold Mc.exec
  split
  · exact ⟨h, rfl, rfl⟩
  split
  · exact ⟨okm.2 { okm.1 h with }, rfl, rfl⟩
  · exact does_like (onw_ok h) (opnd_ok h) _
/-- A size is 0, 1 or 2; it is 0 just where there is no such code; where it is not 2 the byte behind is not looked at. -/
theorem size_in (k : Nat) (hk : k < 31) : (line (k : Int)).2.1 = 1 ∨ (line (k : Int)).2.1 = 2 := by
  rw [line_eq k hk]
  have : ∀ i : Fin 31, (ops.getD i.val ([], 0, 0)).2.1 = 1 ∨ (ops.getD i.val ([], 0, 0)).2.1 = 2 := by decide +kernel
  exact this ⟨k, hk⟩
theorem size_no (k : Int) (hk : ¬ (0 ≤ k ∧ k < 31)) : line k = ([], 0, 0) := by unfold line; rw [if_neg hk]
theorem does_one (m : Mc) (n n' : Int) (k : Nat) (hk : k < 31) (h : (line (k : Int)).2.1 ≠ 2) : m.does n k = m.does n' k := by
  rw [line_eq k hk] at h
  have : ∀ i : Fin 31, (ops.getD i.val ([], 0, 0)).2.1 = 2 ∨ i.val ∈ [0, 3, 4, 7, 8, 10, 15, 16, 17, 18, 24, 25, 26, 27, 28, 29, 30] := by decide +kernel
  have h' := (this ⟨k, hk⟩).resolve_left h
  simp only [List.mem_cons, List.not_mem_nil, or_false] at h'
  rcases h' with rfl | rfl | rfl | rfl | rfl | rfl | rfl | rfl | rfl | rfl | rfl | rfl | rfl | rfl | rfl | rfl | rfl <;> simp only [Mc.does]
/-- A turn of a byte, as both tell it. -/
theorem sub_one {n : Int} (h : bok n = true) : subB n 1 = (n + 255) % 256 := by
  have := bok_iff.1 h
  have h1 : bok 1 = true := rfl
  simp only [subB, h, h1, Bool.and_self, if_true]
  omega
theorem add_one {n : Int} (h : bok n = true) : addB n 1 = (n + 1) % 256 := by
  have h1 : bok 1 = true := rfl
  simp only [addB, h, h1, Bool.and_self, if_true]
theorem readAt_ok {m : Mc} (h : m.ok = true) {q : Int} (hq : bok q = true) : m.readAt q = m.read q := by simp [Mc.readAt, h, hq]
theorem writtenAt_ok {m : Mc} (h : m.ok = true) {q n : Int} (hq : bok q = true) (hn : bok n = true) : m.writtenAt q n = m.write q n := by simp [Mc.writtenAt, h, hq, hn]
end Go.Proofs.YtocofjimkfffeaaGreatDoor.Mem
namespace Go.Proofs.YtocofjimkfffeaaGreatDoor.Mem
open Go.ChangeShapes Go.WideShapes Go.RowKit Base Num Slc Rw Tmr Srl Rom RomOf Opl
set_option linter.unusedVariables false

theorem name_in (k : Nat) (hk : k < 31) : (line (k : Int)).1 ≠ [] := by
  rw [line_eq k hk]
  have : ∀ i : Fin 31, (ops.getD i.val ([], 0, 0)).1 ≠ [] := by decide +kernel
  exact this ⟨k, hk⟩
/-- There is no name just where there is no size. -/
theorem name_size (c : Int) : (line c).1 = [] ↔ (line c).2.1 = 0 := by
  by_cases h : 0 ≤ c ∧ c < 31
  · obtain ⟨k, rfl⟩ : ∃ k : Nat, c = (k : Int) := ⟨c.toNat, by omega⟩
    have h1 := name_in k (by omega)
    have h2 := size_in k (by omega)
    constructor
    · intro e; exact absurd e h1
    · intro e; omega
  · rw [size_no c h]; simp
theorem exec_idle {m : Mc} (h : (m.h || m.s) = true) : m.exec = (m, 1, -1) := by unfold Mc.exec; rw [if_pos h]
theorem exec_none {m : Mc} (h : (m.h || m.s) = false) (hn : (line m.code).1 = []) : m.exec = ({ m with s := true }, 1, -1) := by
  unfold Mc.exec
  rw [if_neg (by rw [h]; decide), if_pos (show m.size' = 0 from (name_size m.code).1 hn)]
theorem exec_cost {m : Mc} (h : (m.h || m.s) = false) (hn : (line m.code).1 ≠ []) : m.exec.2.1 = (line m.code).2.2 := by
  unfold Mc.exec
  rw [if_neg (by rw [h]; decide), if_neg (show ¬ m.size' = 0 from fun e => hn ((name_size m.code).2 e))]
end Go.Proofs.YtocofjimkfffeaaGreatDoor.Mem
