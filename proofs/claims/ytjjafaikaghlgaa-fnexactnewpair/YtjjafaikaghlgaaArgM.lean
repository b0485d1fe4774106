/-
  What came in as an argument of a law: a message, a list of messages.
-/
import Derived.Test.YtjjafaikaghlgaaArg
import Derived.Test.YtjjafaikaghlgaaMsgLaw
import Derived.Deep.Slices
import Derived.ChangeSlices
namespace Go.Proofs.Ytjjafaikaghlgaa.Args
open Go.ChangeShapes Go.WideShapes Go.RowKit Base Slc Slf Mem Go.Joins
set_option linter.unusedVariables false
set_option maxRecDepth 20000
set_option linter.unusedSimpArgs false

theorem cellsL : Try.prog.cellsOf 80 = 3 := by kernel_rfl
theorem cellsI : Try.prog.cellsOf 2 = 1 := by kernel_rfl
section
variable {H : Type} {enc : TypeId × Value → H} {w : World} {n : Nat}
set_option maxRecDepth 20000 in
/-- A message, off its three cells. -/
theorem m3_cells {cs : List Value} {y : DataW H × List MemPlace} (hl : cs.length = 3) (h : DataW.trod enc Try.prog w 0 (fun _ => true) true n 80 cs = some y) : ∃ m : M3, cs = m.cs := by
  obtain ⟨xs, k, _, _, _, hlen, hg⟩ := DataW.trod_struct Try.underlying80 h
  match cs, hl with
  | [c0, c1, c2], _ =>
    have hx : ∀ i, i < 3 → ∃ y, xs[i]? = some y := fun i hi => ⟨_, List.getElem?_eq_getElem (by rw [hlen]; exact hi)⟩
    obtain ⟨u0, e0⟩ := hx 0 (by omega)
    have t0 := (hg 0 _ rfl).trans e0
    obtain ⟨u1, e1⟩ := hx 1 (by omega)
    have t1 := (hg 1 _ rfl).trans e1
    obtain ⟨u2, e2⟩ := hx 2 (by omega)
    have t2 := (hg 2 _ rfl).trans e2
    obtain ⟨z0, q0, _, _⟩ := DataW.trod_int Try.underlying2 t0
    obtain ⟨z1, q1, _, _⟩ := DataW.trod_int Try.underlying2 t1
    obtain ⟨z2, q2, _, _⟩ := DataW.trod_int Try.underlying2 t2
    simp [cellsI] at q0 q1 q2
    subst q0 q1 q2
    exact ⟨⟨z0, z1, z2⟩, rfl⟩
set_option maxRecDepth 20000 in
/-- A list of messages, off its cells. -/
theorem msgs_sl {v : Value} {y : DataW H × List MemPlace} (h : DataW.trod enc Try.prog w 0 (fun _ => true) true n 38 [v] = some y) : ∃ l, SlF fL w v l := by
  rcases Go.Deep.open_slice Try.underlying38 h with ⟨hcs, _⟩ | ⟨a, len, cap, m, k, D, Pl, hcs, _, hl, hm, hmm, _, hx⟩
  · simp at hcs
    subst hcs
    exact ⟨[], none, 0, rfl, .inl rfl, Nat.le_refl _, by decide, fun _ => ⟨rfl, rfl⟩⟩
  · simp at hcs
    subst hcs
    have hmc : m = cap := by simpa using hmm
    have each : ∀ i, i < m → ∃ x : M3, ∀ j, j < 3 → w.cell? ((a.add (i * 3)).add j) = x.cs[j]? := fun i hi => by
      obtain ⟨cs', h1, h2⟩ := hx i hi
      rw [cellsL] at h1
      obtain ⟨_, hlen, hcell⟩ := World.cells?_some h1
      obtain ⟨x, rfl⟩ := m3_cells hlen h2
      exact ⟨x, hcell⟩
    have inh : Inhabited M3 := ⟨M3.nul⟩
    obtain ⟨q, hq⟩ := Go.Deep.choose_lt each
    have hll : ((List.range len).map q).length = len := by simp
    refine ⟨(List.range len).map q, some a, cap, by rw [hll], ?_, by rw [hll]; exact hl, hm, by simp⟩
    by_cases h0 : len = 0
    · exact .inl (by rw [hll]; exact h0)
    · obtain ⟨b, off, spot⟩ := a
      have hc := hq 0 (by omega) 0 (by omega)
      have e0 : (q 0).cs[0]? = some (.int .i64 (q 0).t) := rfl
      rw [e0] at hc
      have hspot : spot = none := by simpa [Addr.add] using World.cell?_spot hc
      subst hspot
      have hb : b < w.heap.size := by simpa [Addr.add] using cell_lt hc
      refine .inr ⟨b, off, rfl, hb, fun k hk => ?_⟩
      rw [hll] at hk
      have h3 : fL.n = 3 := rfl
      rw [h3] at hk
      have hi : k / 3 < len := by omega
      have hg := flat_get okL (l := (List.range len).map q) (i := k / 3) (x := q (k / 3)) (by simp [hi]) (j := k % 3) (by rw [h3]; omega)
      rw [h3, show k / 3 * 3 + k % 3 = k by omega] at hg
      rw [hg]
      have := hq (k / 3) (by omega) (k % 3) (by omega)
      rw [Addr.add_mid, Addr.add_mid, Nat.add_assoc, show k / 3 * 3 + k % 3 = k by omega] at this
      exact this
end
set_option maxRecDepth 20000 in
theorem Arg.msgs {w : World} {v : Value} (h : Arg 38 w v) : ∃ l, SlF fL w v l := by
  obtain ⟨H, enc, b, d, p, hv, hd⟩ := h
  obtain ⟨a, len, cap, rfl⟩ := okWide_slice Try.underlying38 hv
  obtain ⟨fuel, hf⟩ := hd
  exact msgs_sl hf
set_option maxRecDepth 20000 in
theorem Arg.msg {w : World} {v : Value} (h : Arg 80 w v) : ∃ m : M3, v = m.val := by
  obtain ⟨H, enc, b, d, p, hv, hd⟩ := h
  obtain ⟨cs, rfl, hsz⟩ := okWide_struct Try.underlying80 hv
  obtain ⟨fuel, hf⟩ := hd
  have h3 : cs.size = 3 := hsz.trans cellsL
  obtain ⟨m, hm⟩ := m3_cells (by show cs.toList.length = 3; simpa using h3) hf
  refine ⟨m, ?_⟩
  show Value.agg cs = Value.agg m.cs.toArray
  rw [← hm]
  rfl
end Go.Proofs.Ytjjafaikaghlgaa.Args
