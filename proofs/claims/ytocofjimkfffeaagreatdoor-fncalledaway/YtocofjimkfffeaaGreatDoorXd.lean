/-
  What both Executed answer, the answer's parts as letters.
-/
import Derived.Test.YtocofjimkfffeaaGreatDoorDe4
import Derived.Test.YtocofjimkfffeaaGreatDoorSp3
namespace Go.Proofs.YtocofjimkfffeaaGreatDoor.Mem
open Go.ChangeShapes Go.WideShapes Go.RowKit Base Num Slc Rw Tmr Srl Rom RomOf Opl
set_option linter.unusedVariables false

theorem execd_len {m M : Mc} {C O : Int} (h : m.execd = (M, C, O)) : M.rom.length ≤ 4000000 ∧ M.ram.length ≤ 4000000 := by
  have e : M = m.execd.1 := by rw [h]
  rw [e]
  unfold Mc.execd
  cases hok : m.ok
  · exact ⟨by simp [Mc.nul], by simp [Mc.nul]⟩
  · rw [if_pos rfl]
    have hR := Mc.right (exec_like hok).1
    have h1 := hR.rom
    have h2 := hR.ram
    omega
theorem executed_spec' {m M : Mc} {C O : Int} (h : m.execd = (M, C, O)) (v : Value) (w : World) (hm : MSl w v m) :
    Calls Tryz.prog 8 #[v] w fun e w' => ∃ v', e = .returned (.tuple #[v', .int .i64 C, .int .i64 O]) ∧ MOwn w.heap.size w' v' M ∧ Below w.heap.size w w' := by
  have := executed_spec v m w hm
  rw [h] at this
  refine this.mono ?_
  rintro e w' ⟨⟨v', rfl, hv'⟩, hb⟩
  exact ⟨v', rfl, hv', hb⟩
theorem executed_impl' {m M : Mc} {C O : Int} (h : m.execd = (M, C, O)) (v : Value) (w : World) (hm : MSl w v m) (ho : OpsAt w) :
    Calls Tryz.prog 7 #[v] w fun e w' => ∃ v', e = .returned (.tuple #[v', .int .i64 C, .int .i64 O]) ∧ MOwn w.heap.size w' v' M ∧ Below w.heap.size w w' := by
  have := executed_impl v m w hm ho
  rw [h] at this
  refine this.mono ?_
  rintro e w' ⟨⟨v', rfl, hv'⟩, hb⟩
  exact ⟨v', rfl, hv', hb⟩
end Go.Proofs.YtocofjimkfffeaaGreatDoor.Mem
