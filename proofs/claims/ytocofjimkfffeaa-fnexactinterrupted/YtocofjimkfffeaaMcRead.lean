/-
  What is read at a place, as the document's model tells it.
-/
import Derived.Test.YtocofjimkfffeaaMcW
import Derived.Test.YtocofjimkfffeaaMcOk
import Derived.Deep.QuietTactic
import Derived.BigQuiet
namespace Go.Proofs.Ytocofjimkfffeaa.Mem
open Go.ChangeShapes Go.WideShapes Go.RowKit Base Num Slc Rw Tmr Srl Rom RomOf
set_option linter.unusedVariables false
set_option linter.unusedSimpArgs false

theorem flag_in (b : Bool) : 0 ≤ flag b ∧ flag b ≤ 1 := by cases b <;> simp [flag]
theorem bytes_at {l : List Int} (h : l.all bok = true) (k : Nat) (hk : k < l.length) : 0 ≤ l.getD k 0 ∧ l.getD k 0 ≤ 255 := bok_true (all_getD h hk)
/-- What is told of a right machine. -/
structure Right (m : Mc) : Prop where
  rom : 2 ≤ m.rom.length ∧ m.rom.length ≤ 128
  ram : m.ram.length = 64
  tim : 0 ≤ m.t.c ∧ m.t.c ≤ 1000000000
theorem Mc.right {m : Mc} (h : m.ok = true) : Right m := by
  obtain ⟨h1, h2, h3, h4, h5⟩ := Mc.ok_rom h
  exact ⟨romOk_len h1, h2, (Tm.ok_true h3).1⟩
end Go.Proofs.Ytocofjimkfffeaa.Mem
