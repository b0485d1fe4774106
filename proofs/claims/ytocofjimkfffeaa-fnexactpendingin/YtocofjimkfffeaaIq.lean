/-
  Interrupts, as the document tells them: which one is first, who is called away; a right machine stays right, and who is called away comes back by rti.
-/
import Derived.Test.YtocofjimkfffeaaCp2
namespace Go.Proofs.Ytocofjimkfffeaa.Mem
open Go.ChangeShapes Go.WideShapes Go.RowKit Base Num Slc Rw Tmr Srl Rom RomOf Opl
set_option linter.unusedVariables false
set_option linter.unusedSimpArgs false

/-- The least bit that both have, -1 where there is none. -/
def pend (f s : Int) : Int :=
  if f % 2 = 1 ∧ s % 2 = 1 then 0 else if f / 2 % 2 = 1 ∧ s / 2 % 2 = 1 then 1 else if f / 4 % 2 = 1 ∧ s / 4 % 2 = 1 then 2 else -1
def Mc.pend (m : Mc) : Int := Mem.pend m.fl m.ms
def Mc.pendIn (m : Mc) : Int := if m.ok then m.pend else -1
def bitOf (i : Int) : Int := if i = 0 then 1 else if i = 1 then 2 else 4
def Mc.woken (m : Mc) : Mc := { m with h := false }
/-- Woken, not enabled, the bit out of the flags. -/
def Mc.taken (m : Mc) (i : Int) : Mc := { m with h := false, e := false, fl := m.fl - bitOf i }
def Mc.away (m : Mc) (i : Int) : Mc := { (m.taken i).psh m.pc with pc := 16 + 8 * i }
def Mc.call (m : Mc) : Mc × Int :=
  if m.pend < 0 ∨ m.s = true then (m, -1) else if m.e = false then (m.woken, -1) else (m.away m.pend, m.pend)
def Mc.called (m : Mc) : Mc × Int := if m.ok then m.call else (Mc.nul, -1)
theorem pend_in (f s : Int) : pend f s = -1 ∨ pend f s = 0 ∨ pend f s = 1 ∨ pend f s = 2 := by
  unfold pend
  repeat' split
  all_goals omega
theorem woken_ok {m : Mc} (h : m.ok = true) : m.woken.ok = true := okm.2 { okm.1 h with }
theorem taken_ok {m : Mc} (h : m.ok = true) {i : Int} (hi : m.pend = i) (h0 : 0 ≤ i) : (m.taken i).ok = true := by
  have hk := okm.1 h
  have hf := inn_true hk.fl
  refine okm.2 { hk with fl := ?_ }
  show inn (m.fl - bitOf i) 0 7 = true
  have : 0 ≤ m.fl - bitOf i := by
    unfold Mc.pend pend at hi
    unfold bitOf
    repeat' split at hi
    all_goals (repeat' split)
    all_goals omega
  have hb : 0 ≤ bitOf i := by
    unfold bitOf
    repeat' split
    all_goals omega
  simp [inn]
  omega
theorem away_like {m : Mc} (h : m.ok = true) {i : Int} (hi : m.pend = i) (h0 : 0 ≤ i) : Like m (m.away i) := by
  have h1 : i = -1 ∨ i = 0 ∨ i = 1 ∨ i = 2 := hi ▸ pend_in m.fl m.ms
  exact ⟨ok_pc (psh_ok (taken_ok h hi h0) (okm.1 h).pc) (bok_iff.2 (by omega)), write_rest _ _ _⟩
theorem call_like {m : Mc} (h : m.ok = true) : Like m m.call.1 := by
  unfold Mc.call
  split
  · exact ⟨h, rfl, rfl⟩
  split
  · exact ⟨woken_ok h, rfl, rfl⟩
  · rename_i h1 _
    exact away_like h rfl (by omega)
end Go.Proofs.Ytocofjimkfffeaa.Mem
