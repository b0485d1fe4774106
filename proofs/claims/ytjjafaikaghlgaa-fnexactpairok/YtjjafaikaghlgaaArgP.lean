/-
  What came in as an argument of a law: a pair.
-/
import Derived.Test.YtjjafaikaghlgaaArgMc
import Derived.Test.YtjjafaikaghlgaaArgM
import Derived.Test.YtjjafaikaghlgaaPrLaw
import Derived.Deep.Slices
import Derived.ChangeSlices
namespace Go.Proofs.Ytjjafaikaghlgaa.Args
open Go.ChangeShapes Go.WideShapes Go.RowKit Base Srl Tmr Slc Slf Mem Go.Joins
set_option linter.unusedVariables false
set_option maxRecDepth 20000
set_option linter.unusedSimpArgs false

theorem cellsK : Try.prog.cellsOf 123 = 3 := by kernel_rfl
section
variable {H : Type} {enc : TypeId × Value → H} {w : World} {n : Nat}
set_option maxRecDepth 20000 in
/-- The fields of a struct, off its cells. -/
theorem fields_of {t : TypeId} {cs : List Value} {y : DataW H × List MemPlace} {fs : Array Field} (ht : Try.prog.underlying t = some (.struct fs)) (h : DataW.trod enc Try.prog w 0 (fun _ => true) true n t cs = some y) :
    ∃ k : Nat, ∀ (i : Nat) (f : Field), fs[i]? = some f → ∃ y : DataW H × List MemPlace, DataW.trod enc Try.prog w 0 (fun _ => true) true k f.type ((cs.drop f.offset).take (Try.prog.cellsOf f.type)) = some y := by
  obtain ⟨xs, k, _, _, _, hlen, hg⟩ := DataW.trod_struct ht h
  refine ⟨k, fun i f hi => ?_⟩
  have h1 := hg i f hi
  have hl : i < xs.length := by
    have : i < fs.size := by
      by_cases hl : i < fs.size
      · exact hl
      · have e : fs[i]? = none := by simp; omega
        rw [e] at hi; cases hi
    omega
  rw [List.getElem?_eq_getElem hl] at h1
  exact ⟨_, h1⟩
set_option maxRecDepth 20000 in
set_option maxHeartbeats 1000000 in
theorem mc_cells {cs : Array Value} {y : DataW H × List MemPlace} (hsz : cs.size = 25) (h : DataW.trod enc Try.prog w 0 (fun _ => true) true n 98 cs.toList = some y) : ∃ (m : Mc) (vr va : Value), cs = m.cells vr va ∧ Sl w vr m.rom ∧ Sl w va m.ram := by
  obtain ⟨k, hf⟩ := fields_of Try.underlying98 h
  clear h
  obtain ⟨a0, a1, a2, a3, a4, a5, a6, a7, a8, a9, a10, a11, a12, a13, a14, a15, a16, a17, a18, a19, a20, a21, a22, a23, a24, rfl⟩ := size25 hsz
  obtain ⟨y0, h0⟩ := hf 0 _ rfl
  obtain ⟨y1, h1⟩ := hf 1 _ rfl
  obtain ⟨y2, h2⟩ := hf 2 _ rfl
  obtain ⟨y3, h3⟩ := hf 3 _ rfl
  obtain ⟨y4, h4⟩ := hf 4 _ rfl
  obtain ⟨y5, h5⟩ := hf 5 _ rfl
  obtain ⟨y6, h6⟩ := hf 6 _ rfl
  obtain ⟨y7, h7⟩ := hf 7 _ rfl
  obtain ⟨y8, h8⟩ := hf 8 _ rfl
  obtain ⟨y9, h9⟩ := hf 9 _ rfl
  obtain ⟨y10, h10⟩ := hf 10 _ rfl
  obtain ⟨y11, h11⟩ := hf 11 _ rfl
  obtain ⟨y12, h12⟩ := hf 12 _ rfl
  obtain ⟨y13, h13⟩ := hf 13 _ rfl
  obtain ⟨y14, h14⟩ := hf 14 _ rfl
  obtain ⟨y15, h15⟩ := hf 15 _ rfl
  obtain ⟨y16, h16⟩ := hf 16 _ rfl
  simp only [cells64, cellsB, cellsS, cellsT, cellsP, List.drop_succ_cons, List.drop_zero, List.take_succ_cons, List.take_zero, List.drop, List.take] at h0 h1 h2 h3 h4 h5 h6 h7 h8 h9 h10 h11 h12 h13 h14 h15 h16
  obtain ⟨l0, s0⟩ := ints_sl h0
  obtain ⟨l1, s1⟩ := ints_sl h1
  obtain ⟨z2, rfl⟩ := one_int h2
  obtain ⟨z3, rfl⟩ := one_int h3
  obtain ⟨z4, rfl⟩ := one_int h4
  obtain ⟨z5, rfl⟩ := one_int h5
  obtain ⟨z6, rfl⟩ := one_bool h6
  obtain ⟨z7, rfl⟩ := one_bool h7
  obtain ⟨z8, rfl⟩ := one_bool h8
  obtain ⟨z9, rfl⟩ := one_bool h9
  obtain ⟨z10, rfl⟩ := one_bool h10
  obtain ⟨z11, rfl⟩ := one_int h11
  obtain ⟨z12, rfl⟩ := one_int h12
  obtain ⟨z13, rfl⟩ := one_int h13
  obtain ⟨z24, rfl⟩ := one_int h16
  obtain ⟨xs, n2, _, _, _, hlen, hg⟩ := DataW.trod_struct Try.underlying95 h14
  obtain ⟨xs', n3, _, _, _, hlen', hg'⟩ := DataW.trod_struct Try.underlying96 h15
  have hx : ∀ i, i < 4 → ∃ y, xs[i]? = some y := fun i hi => ⟨_, List.getElem?_eq_getElem (by rw [hlen]; exact hi)⟩
  have hx' : ∀ i, i < 6 → ∃ y, xs'[i]? = some y := fun i hi => ⟨_, List.getElem?_eq_getElem (by rw [hlen']; exact hi)⟩
  obtain ⟨u0, e0⟩ := hx 0 (by omega)
  have t0 := (hg 0 _ rfl).trans e0
  obtain ⟨u1, e1⟩ := hx 1 (by omega)
  have t1 := (hg 1 _ rfl).trans e1
  obtain ⟨u2, e2⟩ := hx 2 (by omega)
  have t2 := (hg 2 _ rfl).trans e2
  obtain ⟨u3, e3⟩ := hx 3 (by omega)
  have t3 := (hg 3 _ rfl).trans e3
  obtain ⟨v0, d0⟩ := hx' 0 (by omega)
  have p0 := (hg' 0 _ rfl).trans d0
  obtain ⟨v1, d1⟩ := hx' 1 (by omega)
  have p1 := (hg' 1 _ rfl).trans d1
  obtain ⟨v2, d2⟩ := hx' 2 (by omega)
  have p2 := (hg' 2 _ rfl).trans d2
  obtain ⟨v3, d3⟩ := hx' 3 (by omega)
  have p3 := (hg' 3 _ rfl).trans d3
  obtain ⟨v4, d4⟩ := hx' 4 (by omega)
  have p4 := (hg' 4 _ rfl).trans d4
  obtain ⟨v5, d5⟩ := hx' 5 (by omega)
  have p5 := (hg' 5 _ rfl).trans d5
  obtain ⟨z14, rfl⟩ := one_int t0
  obtain ⟨z15, rfl⟩ := one_int t1
  obtain ⟨z16, rfl⟩ := one_int t2
  obtain ⟨z17, rfl⟩ := one_int t3
  obtain ⟨z18, rfl⟩ := one_int p0
  obtain ⟨z19, rfl⟩ := one_bool p1
  obtain ⟨z20, rfl⟩ := one_bool p2
  obtain ⟨z21, rfl⟩ := one_int p3
  obtain ⟨z22, rfl⟩ := one_int p4
  obtain ⟨z23, rfl⟩ := one_bool p5
  exact ⟨⟨l0, l1, z2, z3, z4, z5, z6, z7, z8, z9, z10, z11, z12, z13, ⟨z14, z15, z16, z17⟩, ⟨z18, z19, z20, z21, z22, z23⟩, z24⟩, a0, a1, rfl, s0, s1⟩
set_option maxRecDepth 20000 in
theorem e3_cells {cs : List Value} {y : DataW H × List MemPlace} (hl : cs.length = 3) (h : DataW.trod enc Try.prog w 0 (fun _ => true) true n 123 cs = some y) : ∃ m : M3, cs = m.cs := by
  obtain ⟨xs, k, _, _, _, hlen, hg⟩ := DataW.trod_struct Try.underlying123 h
  match cs, hl with
  | [c0, c1, c2], _ =>
    have hx : ∀ i, i < 3 → ∃ y, xs[i]? = some y := fun i hi => ⟨_, List.getElem?_eq_getElem (by rw [hlen]; exact hi)⟩
    obtain ⟨u0, e0⟩ := hx 0 (by omega)
    have t0 := (hg 0 _ rfl).trans e0
    obtain ⟨u1, e1⟩ := hx 1 (by omega)
    have t1 := (hg 1 _ rfl).trans e1
    obtain ⟨u2, e2⟩ := hx 2 (by omega)
    have t2 := (hg 2 _ rfl).trans e2
    obtain ⟨z0, q0, _, _⟩ := DataW.trod_int Try.underlying2 t0
    obtain ⟨z1, q1, _, _⟩ := DataW.trod_int Try.underlying2 t1
    obtain ⟨z2, q2, _, _⟩ := DataW.trod_int Try.underlying2 t2
    simp [cellsI] at q0 q1 q2
    subst q0 q1 q2
    exact ⟨⟨z0, z1, z2⟩, rfl⟩
set_option maxRecDepth 20000 in
/-- A list of messages, off its cells. -/
theorem evs_sl {v : Value} {y : DataW H × List MemPlace} (h : DataW.trod enc Try.prog w 0 (fun _ => true) true n 100 [v] = some y) : ∃ l, SlF fK w v l := by
  rcases Go.Deep.open_slice Try.underlying100 h with ⟨hcs, _⟩ | ⟨a, len, cap, m, k, D, Pl, hcs, _, hl, hm, hmm, _, hx⟩
  · simp at hcs
    subst hcs
    exact ⟨[], none, 0, rfl, .inl rfl, Nat.le_refl _, by decide, fun _ => ⟨rfl, rfl⟩⟩
  · simp at hcs
    subst hcs
    have hmc : m = cap := by simpa using hmm
    have each : ∀ i, i < m → ∃ x : M3, ∀ j, j < 3 → w.cell? ((a.add (i * 3)).add j) = x.cs[j]? := fun i hi => by
      obtain ⟨cs', h1, h2⟩ := hx i hi
      rw [cellsK] at h1
      obtain ⟨_, hlen, hcell⟩ := World.cells?_some h1
      obtain ⟨x, rfl⟩ := e3_cells hlen h2
      exact ⟨x, hcell⟩
    have inh : Inhabited M3 := ⟨M3.nul⟩
    obtain ⟨q, hq⟩ := Go.Deep.choose_lt each
    have hll : ((List.range len).map q).length = len := by simp
    refine ⟨(List.range len).map q, some a, cap, by rw [hll], ?_, by rw [hll]; exact hl, hm, by simp⟩
    by_cases h0 : len = 0
    · exact .inl (by rw [hll]; exact h0)
    · obtain ⟨b, off, spot⟩ := a
      have hc := hq 0 (by omega) 0 (by omega)
      have e0 : (q 0).cs[0]? = some (.int .i64 (q 0).t) := rfl
      rw [e0] at hc
      have hspot : spot = none := by simpa [Addr.add] using World.cell?_spot hc
      subst hspot
      have hb : b < w.heap.size := by simpa [Addr.add] using cell_lt hc
      refine .inr ⟨b, off, rfl, hb, fun k hk => ?_⟩
      rw [hll] at hk
      have h3 : fK.n = 3 := rfl
      rw [h3] at hk
      have hi : k / 3 < len := by omega
      have hg := flat_get okK (l := (List.range len).map q) (i := k / 3) (x := q (k / 3)) (by simp [hi]) (j := k % 3) (by rw [h3]; omega)
      rw [h3, show k / 3 * 3 + k % 3 = k by omega] at hg
      rw [hg]
      have := hq (k / 3) (by omega) (k % 3) (by omega)
      rw [Addr.add_mid, Addr.add_mid, Nat.add_assoc, show k / 3 * 3 + k % 3 = k by omega] at this
      exact this
theorem F_of {f : Fl Value} (hf : f.Ok) {u : Value} (h : f.V u = u) : f.F u = u.cells.toList := by
  have := hf.val u
  rw [h] at this
  rw [this]
set_option maxRecDepth 20000 in
/-- A list whose elements read, each off its cells. -/
theorem nest_of {α : Type} {f : Fl Value} {R : World → Value → α → Prop} (hok : f.Ok) (hfit : Fit f R) (d : α) (hS : Try.prog.underlying f.S = some (.slice f.T)) (hc : Try.prog.cellsOf f.T = f.n)
    (each : ∀ (k : Nat) (cs : List Value) (y : DataW H × List MemPlace), cs.length = f.n → DataW.trod enc Try.prog w 0 (fun _ => true) true k f.T cs = some y → ∃ u x, u.cells.toList = cs ∧ R w u x)
    {v : Value} {y : DataW H × List MemPlace} (h : DataW.trod enc Try.prog w 0 (fun _ => true) true n f.S [v] = some y) : ∃ l : List α, NsF f R w v l := by
  rcases Go.Deep.open_slice hS h with ⟨hcs, _⟩ | ⟨a, len, cap, m, k, D, Pl, hcs, _, hl, hm, hmm, _, hx⟩
  · simp at hcs
    subst hcs
    exact ⟨[], [], ⟨none, 0, rfl, .inl rfl, Nat.le_refl _, by decide, fun _ => ⟨rfl, rfl⟩⟩, All2.nil⟩
  · simp at hcs
    subst hcs
    have hmc : m = cap := by simpa using hmm
    have hall : ∀ i, i < m → ∃ q : Value × α, R w q.1 q.2 ∧ ∀ j, j < f.n → w.cell? ((a.add (i * f.n)).add j) = (f.F q.1)[j]? := fun i hi => by
      obtain ⟨cs', h1, h2⟩ := hx i hi
      rw [hc] at h1
      obtain ⟨_, hlen, hcell⟩ := World.cells?_some h1
      obtain ⟨u, x, hu, hr⟩ := each _ cs' _ hlen h2
      exact ⟨(u, x), hr, fun j hj => by rw [F_of hok (hfit _ _ _ hr), hu]; exact hcell j hj⟩
    have inh : Inhabited (Value × α) := ⟨(undef, d)⟩
    obtain ⟨q, hq⟩ := Go.Deep.choose_lt hall
    have hll : ((List.range len).map fun i => (q i).1).length = len := by simp
    refine ⟨(List.range len).map fun i => (q i).2, (List.range len).map fun i => (q i).1, ⟨some a, cap, by rw [hll], ?_, by rw [hll]; exact hl, hm, by simp⟩, by simp, fun i u x h1 h2 => ?_⟩
    · by_cases h0 : len = 0
      · exact .inl (by rw [hll]; exact h0)
      · obtain ⟨b, off, spot⟩ := a
        have hp := hok.pos
        have hcc := (hq 0 (by omega)).2 0 hp
        have hlen0 := hok.len (q 0).1
        rw [List.getElem?_eq_getElem (by omega)] at hcc
        have hspot : spot = none := by simpa [Addr.add] using World.cell?_spot hcc
        subst hspot
        have hb : b < w.heap.size := by simpa [Addr.add] using cell_lt hcc
        refine .inr ⟨b, off, rfl, hb, fun k hk => ?_⟩
        rw [hll] at hk
        have hi : k / f.n < len := by rw [Nat.div_lt_iff_lt_mul hp]; exact hk
        have hj : k % f.n < f.n := Nat.mod_lt _ hp
        have ek : k / f.n * f.n + k % f.n = k := by rw [Nat.mul_comm]; exact Nat.div_add_mod k f.n
        have hg := flat_get hok (l := (List.range len).map fun i => (q i).1) (i := k / f.n) (x := (q (k / f.n)).1) (by simp [hi]) (j := k % f.n) hj
        rw [ek] at hg
        rw [hg]
        have := (hq (k / f.n) (by omega)).2 (k % f.n) hj
        rw [Addr.add_mid, Addr.add_mid, Nat.add_assoc, ek] at this
        exact this
    · have hi : i < len := by have := (List.getElem?_eq_some_iff.1 h1).1; simpa using this
      simp [hi] at h1 h2
      subst h1 h2
      exact (hq i (by omega)).1
end
theorem cellsMc : Try.prog.cellsOf 98 = 25 := by kernel_rfl
theorem cellsMs : Try.prog.cellsOf 38 = 1 := by kernel_rfl
theorem cellsEs : Try.prog.cellsOf 100 = 1 := by kernel_rfl
theorem cells1 : Try.prog.cellsOf 22 = 1 := by kernel_rfl
theorem cells2 : Try.prog.cellsOf 23 = 1 := by kernel_rfl
theorem cells3 : Try.prog.cellsOf 24 = 1 := by kernel_rfl
theorem size3 {cs : Array Value} (h : cs.size = 3) : ∃ a b c, cs = #[a, b, c] := by
  obtain ⟨l⟩ := cs
  match l, h with
  | [a, b, c], _ => exact ⟨a, b, c, rfl⟩
theorem list1 {cs : List Value} (h : cs.length = 1) : ∃ a, cs = [a] := by
  match cs, h with
  | [a], _ => exact ⟨a, rfl⟩
set_option maxRecDepth 20000 in
theorem Arg.pair {w : World} {v : Value} (h : Arg 26 w v) : ∃ p, LPair w v p := by
  obtain ⟨cs, H, enc, n, rfl, hsz, hf⟩ := h.fields Try.underlying26
  have h3 : Try.prog.cellsOf 26 = 3 := by kernel_rfl
  obtain ⟨a, b, c, rfl⟩ := size3 (hsz.trans h3)
  obtain ⟨y0, h0⟩ := hf 0 _ rfl
  obtain ⟨y1, h1⟩ := hf 1 _ rfl
  obtain ⟨y2, h2⟩ := hf 2 _ rfl
  simp only [cells1, cells2, cells3, List.drop_succ_cons, List.drop_zero, List.take_succ_cons, List.take_zero, List.drop, List.take] at h0 h1 h2
  obtain ⟨ms, e0⟩ := nest_of (f := fLMc) (R := MSl) okLMc fit_mc Mc.nul Try.underlying22 cellsMc (fun k cs y hl h => by
    obtain ⟨m, vr, va, e, s1, s2⟩ := mc_cells (cs := cs.toArray) (by have e25 : cs.length = 25 := hl; simpa using e25) h
    refine ⟨m.val vr va, m, ?_, vr, va, rfl, s1, s2⟩
    show (m.cells vr va).toList = cs
    rw [← e]) h0
  obtain ⟨is, e1⟩ := nest_of (f := fLMs) (R := SlF fL) okLMs fit_sl [] Try.underlying23 cellsMs (fun k cs y hl h => by
    obtain ⟨u, rfl⟩ := list1 hl
    obtain ⟨l, hs⟩ := msgs_sl h
    exact ⟨u, l, cells_one hs.one, hs⟩) h1
  obtain ⟨ts, e2⟩ := nest_of (f := fLEv) (R := SlF fK) okLEv fit_sl [] Try.underlying24 cellsEs (fun k cs y hl h => by
    obtain ⟨u, rfl⟩ := list1 hl
    obtain ⟨l, hs⟩ := evs_sl h
    exact ⟨u, l, cells_one hs.one, hs⟩) h2
  exact ⟨⟨ms, is, ts⟩, a, b, c, rfl, e0, e1, e2⟩
end Go.Proofs.Ytjjafaikaghlgaa.Args
