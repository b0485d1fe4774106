/-
  What FnExactRunTo leans on: part 10.
-/
import Derived.Deep.Slices
import Derived.ChangeSlices
import Derived.Test.YtghmkacamabndaaGreatDoorRunP2
import Derived.Test.YtghmkacamabndaaGreatDoorRunP9
set_option linter.unusedVariables false
set_option linter.unusedSimpArgs false
set_option maxRecDepth 20000
namespace Go.Proofs.YtghmkacamabndaaGreatDoor.Args
open Go.ChangeShapes Go.WideShapes Go.RowKit Base Slc Slf Mem Go.Joins

theorem cellsL : Tryz.prog.cellsOf 121 = 3 := by kernel_rfl
theorem cellsI : Tryz.prog.cellsOf 2 = 1 := by kernel_rfl
section
variable {H : Type} {enc : TypeId × Value → H} {w : World} {n : Nat}
set_option maxRecDepth 20000 in
theorem m3_cells {cs : List Value} {y : DataW H × List MemPlace} (hl : cs.length = 3) (h : DataW.trod enc Tryz.prog w 0 (fun _ => true) true n 121 cs = some y) : ∃ m : M3, cs = m.cs := by
 obtain ⟨xs, k, _, _, _, hlen, hg⟩ := DataW.trod_struct Tryz.underlying121 h
 match cs, hl with
 | [c0, c1, c2], _ =>
  have hx : ∀ i, i < 3 → ∃ y, xs[i]? = some y := fun i hi => ⟨_, List.getElem?_eq_getElem (by rw [hlen]; exact hi)⟩
  obtain ⟨u0, e0⟩ := hx 0 (by omega)
  have t0 := (hg 0 _ rfl).trans e0
  obtain ⟨u1, e1⟩ := hx 1 (by omega)
  have t1 := (hg 1 _ rfl).trans e1
  obtain ⟨u2, e2⟩ := hx 2 (by omega)
  have t2 := (hg 2 _ rfl).trans e2
  obtain ⟨z0, q0, _, _⟩ := DataW.trod_int Tryz.underlying2 t0
  obtain ⟨z1, q1, _, _⟩ := DataW.trod_int Tryz.underlying2 t1
  obtain ⟨z2, q2, _, _⟩ := DataW.trod_int Tryz.underlying2 t2
  simp [cellsI] at q0 q1 q2
  subst q0 q1 q2
  exact ⟨⟨z0, z1, z2⟩, rfl⟩
set_option maxRecDepth 20000 in
theorem msgs_sl {v : Value} {y : DataW H × List MemPlace} (h : DataW.trod enc Tryz.prog w 0 (fun _ => true) true n 70 [v] = some y) : ∃ l, SlF fL w v l := by
 rcases Go.Deep.open_slice Tryz.underlying70 h with ⟨hcs, _⟩ | ⟨a, len, cap, m, k, D, Pl, hcs, _, hl, hm, hmm, _, hx⟩
 ·simp at hcs
  subst hcs
  exact ⟨[], none, 0, rfl, .inl rfl, Nat.le_refl _, by decide, fun _ => ⟨rfl, rfl⟩⟩
 ·simp at hcs
  subst hcs
  have hmc : m = cap := by simpa using hmm
  have each : ∀ i, i < m → ∃ x : M3, ∀ j, j < 3 → w.cell? ((a.add (i * 3)).add j) = x.cs[j]? := fun i hi => by
   obtain ⟨cs', h1, h2⟩ := hx i hi
   rw [cellsL] at h1
   obtain ⟨_, hlen, hcell⟩ := World.cells?_some h1
   obtain ⟨x, rfl⟩ := m3_cells hlen h2
   exact ⟨x, hcell⟩
  have inh : Inhabited M3 := ⟨M3.nul⟩
  obtain ⟨q, hq⟩ := Go.Deep.choose_lt each
  have hll : ((List.range len).map q).length = len := by simp
  refine ⟨(List.range len).map q, some a, cap, by rw [hll], ?_, by rw [hll]; exact hl, hm, by simp⟩
  by_cases h0 : len = 0
  ·exact .inl (by rw [hll]; exact h0)
  ·obtain ⟨b, off, spot⟩ := a
   have hc := hq 0 (by omega) 0 (by omega)
   have e0 : (q 0).cs[0]? = some (.int .i64 (q 0).t) := rfl
   rw [e0] at hc
   have hspot : spot = none := by simpa [Addr.add] using World.cell?_spot hc
   subst hspot
   have hb : b < w.heap.size := by simpa [Addr.add] using cell_lt hc
   refine .inr ⟨b, off, rfl, hb, fun k hk => ?_⟩
   rw [hll] at hk
   have h3 : fL.n = 3 := rfl
   rw [h3] at hk
   have hi : k / 3 < len := by omega
   have hg := flat_get okL (l := (List.range len).map q) (i := k / 3) (x := q (k / 3)) (by simp [hi]) (j := k % 3) (by rw [h3]; omega)
   rw [h3, show k / 3 * 3 + k % 3 = k by omega] at hg
   rw [hg]
   have := hq (k / 3) (by omega) (k % 3) (by omega)
   rw [Addr.add_mid, Addr.add_mid, Nat.add_assoc, show k / 3 * 3 + k % 3 = k by omega] at this
   exact this
end
set_option maxRecDepth 20000 in
theorem Arg.msgs {w : World} {v : Value} (h : Arg 70 w v) : ∃ l, SlF fL w v l := by
 obtain ⟨H, enc, b, d, p, hv, hd⟩ := h
 obtain ⟨a, len, cap, rfl⟩ := okWide_slice Tryz.underlying70 hv
 obtain ⟨fuel, hf⟩ := hd
 exact msgs_sl hf
end Go.Proofs.YtghmkacamabndaaGreatDoor.Args
