/-
  What came in as an argument of a law: a note, a pipe.
-/
import Derived.Test.YtggfjghcgacdnaaArgM
import Derived.Test.YtggfjghcgacdnaaPpLaw
import Derived.Deep.Slices
import Derived.ChangeSlices
namespace Go.Proofs.Ytggfjghcgacdnaa.Args
open Go.ChangeShapes Go.WideShapes Go.RowKit Base Slc Slf Mem Go.Joins
set_option linter.unusedVariables false
set_option maxRecDepth 20000
set_option linter.unusedSimpArgs false

theorem cellsNt : Try.prog.cellsOf 47 = 5 := by kernel_rfl
theorem cellsPp : Try.prog.cellsOf 52 = 2 := by kernel_rfl
theorem cellsBl : Try.prog.cellsOf 4 = 1 := by kernel_rfl
theorem cellsMg : Try.prog.cellsOf 45 = 3 := by kernel_rfl
theorem cellsNts : Try.prog.cellsOf 50 = 1 := by kernel_rfl
section
variable {H : Type} {enc : TypeId × Value → H} {w : World} {n : Nat}
set_option maxRecDepth 20000 in
/-- A note, off its five cells. -/
theorem nt_cells {cs : List Value} {y : DataW H × List MemPlace} (hl : cs.length = 5) (h : DataW.trod enc Try.prog w 0 (fun _ => true) true n 47 cs = some y) : ∃ m : Nt, cs = m.cs := by
  obtain ⟨xs, k, _, _, _, hlen, hg⟩ := DataW.trod_struct Try.underlying47 h
  match cs, hl with
  | [c0, c1, c2, c3, c4], _ =>
    have hx : ∀ i, i < 3 → ∃ y, xs[i]? = some y := fun i hi => ⟨_, List.getElem?_eq_getElem (by rw [hlen]; exact hi)⟩
    obtain ⟨u0, e0⟩ := hx 0 (by omega)
    have t0 := (hg 0 _ rfl).trans e0
    obtain ⟨u1, e1⟩ := hx 1 (by omega)
    have t1 := (hg 1 _ rfl).trans e1
    obtain ⟨u2, e2⟩ := hx 2 (by omega)
    have t2 := (hg 2 _ rfl).trans e2
    obtain ⟨z0, q0, _⟩ := DataW.trod_bool Try.underlying4 t0
    obtain ⟨z1, q1, _, _⟩ := DataW.trod_int Try.underlying2 t1
    simp [cellsI, cellsBl] at q0 q1
    have t2 : DataW.trod enc Try.prog w 0 (fun _ => true) true k 45 (([c0, c1, c2, c3, c4].drop 2).take (Try.prog.cellsOf 45)) = some u2 := t2
    rw [cellsMg] at t2
    have t2 : DataW.trod enc Try.prog w 0 (fun _ => true) true k 45 [c2, c3, c4] = some u2 := t2
    obtain ⟨m, hm⟩ := m3_cells (by rfl) t2
    subst q0 q1
    refine ⟨⟨z0, z1, m⟩, ?_⟩
    simp only [M3.cs, List.cons.injEq, and_true] at hm
    simp [Nt.cs, hm]
set_option maxRecDepth 20000 in
/-- A list of notes, off its cells. -/
theorem notes_sl {v : Value} {y : DataW H × List MemPlace} (h : DataW.trod enc Try.prog w 0 (fun _ => true) true n 50 [v] = some y) : ∃ l, SlF fLN w v l := by
  rcases Go.Deep.open_slice Try.underlying50 h with ⟨hcs, _⟩ | ⟨a, len, cap, m, k, D, Pl, hcs, _, hl, hm, hmm, _, hx⟩
  · simp at hcs
    subst hcs
    exact ⟨[], none, 0, rfl, .inl rfl, Nat.le_refl _, by decide, fun _ => ⟨rfl, rfl⟩⟩
  · simp at hcs
    subst hcs
    have hmc : m = cap := by simpa using hmm
    have each : ∀ i, i < m → ∃ x : Nt, ∀ j, j < 5 → w.cell? ((a.add (i * 5)).add j) = x.cs[j]? := fun i hi => by
      obtain ⟨cs', h1, h2⟩ := hx i hi
      rw [cellsNt] at h1
      obtain ⟨_, hlen, hcell⟩ := World.cells?_some h1
      obtain ⟨x, rfl⟩ := nt_cells hlen h2
      exact ⟨x, hcell⟩
    have inh : Inhabited Nt := ⟨Nt.nul⟩
    obtain ⟨q, hq⟩ := Go.Deep.choose_lt each
    have hll : ((List.range len).map q).length = len := by simp
    refine ⟨(List.range len).map q, some a, cap, by rw [hll], ?_, by rw [hll]; exact hl, hm, by simp⟩
    by_cases h0 : len = 0
    · exact .inl (by rw [hll]; exact h0)
    · obtain ⟨b, off, spot⟩ := a
      have hc := hq 0 (by omega) 0 (by omega)
      have e0 : (q 0).cs[0]? = some (.bool (q 0).p) := rfl
      rw [e0] at hc
      have hspot : spot = none := by simpa [Addr.add] using World.cell?_spot hc
      subst hspot
      have hb : b < w.heap.size := by simpa [Addr.add] using cell_lt hc
      refine .inr ⟨b, off, rfl, hb, fun k hk => ?_⟩
      rw [hll] at hk
      have h3 : fLN.n = 5 := rfl
      rw [h3] at hk
      have hi : k / 5 < len := by omega
      have hg := flat_get okLN (l := (List.range len).map q) (i := k / 5) (x := q (k / 5)) (by simp [hi]) (j := k % 5) (by rw [h3]; omega)
      rw [h3, show k / 5 * 5 + k % 5 = k by omega] at hg
      rw [hg]
      have := hq (k / 5) (by omega) (k % 5) (by omega)
      rw [Addr.add_mid, Addr.add_mid, Nat.add_assoc, show k / 5 * 5 + k % 5 = k by omega] at this
      exact this
end
set_option maxRecDepth 20000 in
theorem Arg.note {w : World} {v : Value} (h : Arg 47 w v) : ∃ m : Nt, v = m.val := by
  obtain ⟨H, enc, b, d, p, hv, hd⟩ := h
  obtain ⟨cs, rfl, hsz⟩ := okWide_struct Try.underlying47 hv
  obtain ⟨fuel, hf⟩ := hd
  have h3 : cs.size = 5 := hsz.trans cellsNt
  obtain ⟨m, hm⟩ := nt_cells (by show cs.toList.length = 5; simpa using h3) hf
  refine ⟨m, ?_⟩
  show Value.agg cs = Value.agg m.cs.toArray
  rw [← hm]
  rfl
set_option maxRecDepth 20000 in
theorem Arg.pipe {w : World} {v : Value} (h : Arg 52 w v) : ∃ p : Pp, PpL w v p := by
  obtain ⟨H, enc, b, d, p, hv, hd⟩ := h
  obtain ⟨cs, rfl, hsz⟩ := okWide_struct Try.underlying52 hv
  obtain ⟨fuel, hf⟩ := hd
  have h2 : cs.size = 2 := hsz.trans cellsPp
  obtain ⟨a0, a1, rfl⟩ : ∃ a0 a1, cs = #[a0, a1] := by
    obtain ⟨l⟩ := cs
    match l, h2 with
    | [a0, a1], _ => exact ⟨a0, a1, rfl⟩
  obtain ⟨xs, k, _, _, _, hlen, hg⟩ := DataW.trod_struct Try.underlying52 hf
  have hx : ∀ i, i < 2 → ∃ y, xs[i]? = some y := fun i hi => ⟨_, List.getElem?_eq_getElem (by rw [hlen]; exact hi)⟩
  obtain ⟨u0, e0⟩ := hx 0 (by omega)
  have t0 := (hg 0 _ rfl).trans e0
  obtain ⟨u1, e1⟩ := hx 1 (by omega)
  have t1 := (hg 1 _ rfl).trans e1
  obtain ⟨z0, q0, _, _⟩ := DataW.trod_int Try.underlying2 t0
  simp [Value.cells, cellsI] at q0
  have t1 : DataW.trod enc Try.prog w 0 (fun _ => true) true k 50 (([a0, a1].drop 1).take (Try.prog.cellsOf 50)) = some u1 := t1
  rw [cellsNts] at t1
  have t1 : DataW.trod enc Try.prog w 0 (fun _ => true) true k 50 [a1] = some u1 := t1
  obtain ⟨l, hl⟩ := notes_sl t1
  subst q0
  exact ⟨⟨z0, l⟩, a1, rfl, hl⟩
end Go.Proofs.Ytggfjghcgacdnaa.Args
