/-
  What came in as an argument of a law: a list of numbers.
-/
import Derived.Test.YtjjafaikaghlgaaArgM
import Derived.Test.YtjjafaikaghlgaaArgMc
namespace Go.Proofs.Ytjjafaikaghlgaa.Args
open Go.ChangeShapes Go.WideShapes Go.RowKit Base Srl Tmr Slc Mem Go.Joins
set_option linter.unusedVariables false
set_option maxRecDepth 20000

theorem Arg.ints {w : World} {v : Value} (h : Arg 37 w v) : ∃ l, Sl w v l := by
  obtain ⟨H, enc, b, d, p, hv, hd⟩ := h
  obtain ⟨a, len, cap, rfl⟩ := okWide_slice Try.underlying37 hv
  obtain ⟨fuel, hf⟩ := hd
  exact ints_sl hf
end Go.Proofs.Ytjjafaikaghlgaa.Args
