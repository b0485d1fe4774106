/-
  What came in as an argument of a law: a port; a truth value.
-/
import Derived.Test.YtjjafaikaghlgaaArg
import Derived.Test.YtjjafaikaghlgaaSrl
namespace Go.Proofs.Ytjjafaikaghlgaa.Args
open Go.ChangeShapes Go.WideShapes Go.RowKit Base Srl
set_option linter.unusedVariables false
set_option maxRecDepth 20000

set_option maxRecDepth 20000 in
/-- A struct that came in, field by field. -/
theorem Arg.fields {t : TypeId} {w : World} {v : Value} {fs : Array Field} (ht : Try.prog.underlying t = some (.struct fs)) (h : Arg t w v) :
    ∃ (cs : Array Value) (H : Type) (enc : TypeId × Value → H) (n : Nat), v = .agg cs ∧ cs.size = Try.prog.cellsOf t ∧
      ∀ (i : Nat) (f : Field), fs[i]? = some f → ∃ y : DataW H × List MemPlace, DataW.trod enc Try.prog w 0 (fun _ => true) true n f.type ((cs.toList.drop f.offset).take (Try.prog.cellsOf f.type)) = some y := by
  obtain ⟨H, enc, b, d, p, hv, hd⟩ := h
  obtain ⟨cs, rfl, hsz⟩ := okWide_struct ht hv
  obtain ⟨fuel, hf⟩ := hd
  obtain ⟨xs, n, _, _, _, hlen, hg⟩ := DataW.trod_struct ht hf
  refine ⟨cs, H, enc, n, rfl, hsz, fun i f hi => ?_⟩
  have h1 := hg i f hi
  have hl : i < xs.length := by
    have : i < fs.size := by
      by_cases hl : i < fs.size
      · exact hl
      · have e : fs[i]? = none := by simp; omega
        rw [e] at hi; cases hi
    omega
  rw [List.getElem?_eq_getElem hl] at h1
  exact ⟨_, h1⟩
theorem cells64 : Try.prog.cellsOf 2 = 1 := by kernel_rfl
theorem cellsB : Try.prog.cellsOf 4 = 1 := by kernel_rfl
set_option maxRecDepth 20000 in
theorem Arg.bool {w : World} {v : Value} (h : Arg 4 w v) : ∃ q : Bool, v = .bool q := by
  obtain ⟨H, enc, b, d, p, hv, hd⟩ := h
  obtain ⟨q, rfl⟩ := okWide_bool Try.underlying4 hv
  exact ⟨q, rfl⟩
theorem size6 {cs : Array Value} (h : cs.size = 6) : ∃ a b c d e f, cs = #[a, b, c, d, e, f] := by
  obtain ⟨l⟩ := cs
  match l, h with
  | [a, b, c, d, e, f], _ => exact ⟨a, b, c, d, e, f, rfl⟩
set_option maxRecDepth 20000 in
theorem Arg.serial {w : World} {v : Value} (h : Arg 96 w v) : ∃ s : Sr, v = s.val := by
  obtain ⟨cs, H, enc, n, rfl, hsz, hf⟩ := h.fields Try.underlying96
  have h6 : Try.prog.cellsOf 96 = 6 := by kernel_rfl
  obtain ⟨c0, c1, c2, c3, c4, c5, rfl⟩ := size6 (hsz.trans h6)
  obtain ⟨y0, h0⟩ := hf 0 _ rfl
  obtain ⟨y1, h1⟩ := hf 1 _ rfl
  obtain ⟨y2, h2⟩ := hf 2 _ rfl
  obtain ⟨y3, h3⟩ := hf 3 _ rfl
  obtain ⟨y4, h4⟩ := hf 4 _ rfl
  obtain ⟨y5, h5⟩ := hf 5 _ rfl
  obtain ⟨a0, e0, _, _⟩ := DataW.trod_int Try.underlying2 h0
  obtain ⟨a1, e1, _⟩ := DataW.trod_bool Try.underlying4 h1
  obtain ⟨a2, e2, _⟩ := DataW.trod_bool Try.underlying4 h2
  obtain ⟨a3, e3, _, _⟩ := DataW.trod_int Try.underlying2 h3
  obtain ⟨a4, e4, _, _⟩ := DataW.trod_int Try.underlying2 h4
  obtain ⟨a5, e5, _⟩ := DataW.trod_bool Try.underlying4 h5
  simp [cells64] at e0 e3 e4
  simp [cellsB] at e1 e2 e5
  subst e0 e1 e2 e3 e4 e5
  exact ⟨⟨a0, a1, a2, a3, a4, a5⟩, rfl⟩
end Go.Proofs.Ytjjafaikaghlgaa.Args
