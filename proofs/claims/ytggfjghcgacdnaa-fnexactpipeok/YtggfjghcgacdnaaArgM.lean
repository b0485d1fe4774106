/-
  What came in as an argument of a law: a message, a list of messages.
-/
import Derived.Test.YtggfjghcgacdnaaArg
import Derived.Test.YtggfjghcgacdnaaMsgLaw
import Derived.Deep.Slices
import Derived.ChangeSlices
namespace Go.Proofs.Ytggfjghcgacdnaa.Args
open Go.ChangeShapes Go.WideShapes Go.RowKit Base Slc Slf Mem Go.Joins
set_option linter.unusedVariables false
set_option maxRecDepth 20000
set_option linter.unusedSimpArgs false

theorem cellsL : Try.prog.cellsOf 45 = 3 := by kernel_rfl
theorem cellsI : Try.prog.cellsOf 2 = 1 := by kernel_rfl
section
variable {H : Type} {enc : TypeId × Value → H} {w : World} {n : Nat}
set_option maxRecDepth 20000 in
/-- A message, off its three cells. -/
theorem m3_cells {cs : List Value} {y : DataW H × List MemPlace} (hl : cs.length = 3) (h : DataW.trod enc Try.prog w 0 (fun _ => true) true n 45 cs = some y) : ∃ m : M3, cs = m.cs := by
  obtain ⟨xs, k, _, _, _, hlen, hg⟩ := DataW.trod_struct Try.underlying45 h
  match cs, hl with
  | [c0, c1, c2], _ =>
    have hx : ∀ i, i < 3 → ∃ y, xs[i]? = some y := fun i hi => ⟨_, List.getElem?_eq_getElem (by rw [hlen]; exact hi)⟩
    obtain ⟨u0, e0⟩ := hx 0 (by omega)
    have t0 := (hg 0 _ rfl).trans e0
    obtain ⟨u1, e1⟩ := hx 1 (by omega)
    have t1 := (hg 1 _ rfl).trans e1
    obtain ⟨u2, e2⟩ := hx 2 (by omega)
    have t2 := (hg 2 _ rfl).trans e2
    obtain ⟨z0, q0, _, _⟩ := DataW.trod_int Try.underlying2 t0
    obtain ⟨z1, q1, _, _⟩ := DataW.trod_int Try.underlying2 t1
    obtain ⟨z2, q2, _, _⟩ := DataW.trod_int Try.underlying2 t2
    simp [cellsI] at q0 q1 q2
    subst q0 q1 q2
    exact ⟨⟨z0, z1, z2⟩, rfl⟩
end
set_option maxRecDepth 20000 in
theorem Arg.msg {w : World} {v : Value} (h : Arg 45 w v) : ∃ m : M3, v = m.val := by
  obtain ⟨H, enc, b, d, p, hv, hd⟩ := h
  obtain ⟨cs, rfl, hsz⟩ := okWide_struct Try.underlying45 hv
  obtain ⟨fuel, hf⟩ := hd
  have h3 : cs.size = 3 := hsz.trans cellsL
  obtain ⟨m, hm⟩ := m3_cells (by show cs.toList.length = 3; simpa using h3) hf
  refine ⟨m, ?_⟩
  show Value.agg cs = Value.agg m.cs.toArray
  rw [← hm]
  rfl
end Go.Proofs.Ytggfjghcgacdnaa.Args
