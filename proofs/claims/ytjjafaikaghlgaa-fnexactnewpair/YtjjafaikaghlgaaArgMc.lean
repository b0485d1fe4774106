/-
  What came in as an argument of a law: a machine.
-/
import Derived.Test.YtjjafaikaghlgaaArgSr
import Derived.Test.YtjjafaikaghlgaaMc
import Derived.ChangeSlices
namespace Go.Proofs.Ytjjafaikaghlgaa.Args
open Go.ChangeShapes Go.WideShapes Go.RowKit Base Srl Tmr Slc Mem
set_option linter.unusedVariables false
set_option maxRecDepth 20000
set_option linter.unusedSimpArgs false

theorem size25 {cs : Array Value} (h : cs.size = 25) : ∃ a0 a1 a2 a3 a4 a5 a6 a7 a8 a9 a10 a11 a12 a13 a14 a15 a16 a17 a18 a19 a20 a21 a22 a23 a24, cs = #[a0, a1, a2, a3, a4, a5, a6, a7, a8, a9, a10, a11, a12, a13, a14, a15, a16, a17, a18, a19, a20, a21, a22, a23, a24] := by
  obtain ⟨l⟩ := cs
  match l, h with
  | [a0, a1, a2, a3, a4, a5, a6, a7, a8, a9, a10, a11, a12, a13, a14, a15, a16, a17, a18, a19, a20, a21, a22, a23, a24], _ => exact ⟨a0, a1, a2, a3, a4, a5, a6, a7, a8, a9, a10, a11, a12, a13, a14, a15, a16, a17, a18, a19, a20, a21, a22, a23, a24, rfl⟩
theorem cellsS : Try.prog.cellsOf 37 = 1 := by kernel_rfl
theorem cellsT : Try.prog.cellsOf 95 = 4 := by kernel_rfl
theorem cellsP : Try.prog.cellsOf 96 = 6 := by kernel_rfl
section
variable {H : Type} {enc : TypeId × Value → H} {w : World} {n : Nat}
set_option maxRecDepth 20000 in
theorem ints_sl {v : Value} {y : DataW H × List MemPlace} (h : DataW.trod enc Try.prog w 0 (fun _ => true) true n 37 [v] = some y) : ∃ l, Sl w v l := by
  rcases open_ints Try.underlying37 Try.underlying2 cells64 h with ⟨hcs, _⟩ | ⟨x, l, c, zs, hcs, _, hl, hm, hz, _, hcell, hwz⟩
  · simp at hcs
    subst hcs
    exact ⟨_, sl_of (zs := []) (.inl ⟨rfl, rfl, rfl, rfl⟩)⟩
  · simp at hcs
    subst hcs
    exact ⟨_, sl_of (.inr ⟨_, rfl, hl, hm, by simpa using hz, hcell, hwz⟩)⟩
set_option maxRecDepth 20000 in
theorem one_int {v : Value} {y : DataW H × List MemPlace} (h : DataW.trod enc Try.prog w 0 (fun _ => true) true n 2 [v] = some y) : ∃ z, v = .int .i64 z := by
  obtain ⟨z, e, _, _⟩ := DataW.trod_int Try.underlying2 h
  simp at e
  exact ⟨z, e⟩
set_option maxRecDepth 20000 in
theorem one_bool {v : Value} {y : DataW H × List MemPlace} (h : DataW.trod enc Try.prog w 0 (fun _ => true) true n 4 [v] = some y) : ∃ z, v = .bool z := by
  obtain ⟨z, e, _⟩ := DataW.trod_bool Try.underlying4 h
  simp at e
  exact ⟨z, e⟩
end
set_option maxRecDepth 20000 in
set_option maxHeartbeats 1000000 in
theorem Arg.machine {w : World} {v : Value} (h : Arg 98 w v) : ∃ (m : Mc) (vr va : Value), v = m.val vr va ∧ Sl w vr m.rom ∧ Sl w va m.ram := by
  obtain ⟨cs, H, enc, n, rfl, hsz, hf⟩ := h.fields Try.underlying98
  have h25 : Try.prog.cellsOf 98 = 25 := by kernel_rfl
  obtain ⟨a0, a1, a2, a3, a4, a5, a6, a7, a8, a9, a10, a11, a12, a13, a14, a15, a16, a17, a18, a19, a20, a21, a22, a23, a24, rfl⟩ := size25 (hsz.trans h25)
  obtain ⟨y0, h0⟩ := hf 0 _ rfl
  obtain ⟨y1, h1⟩ := hf 1 _ rfl
  obtain ⟨y2, h2⟩ := hf 2 _ rfl
  obtain ⟨y3, h3⟩ := hf 3 _ rfl
  obtain ⟨y4, h4⟩ := hf 4 _ rfl
  obtain ⟨y5, h5⟩ := hf 5 _ rfl
  obtain ⟨y6, h6⟩ := hf 6 _ rfl
  obtain ⟨y7, h7⟩ := hf 7 _ rfl
  obtain ⟨y8, h8⟩ := hf 8 _ rfl
  obtain ⟨y9, h9⟩ := hf 9 _ rfl
  obtain ⟨y10, h10⟩ := hf 10 _ rfl
  obtain ⟨y11, h11⟩ := hf 11 _ rfl
  obtain ⟨y12, h12⟩ := hf 12 _ rfl
  obtain ⟨y13, h13⟩ := hf 13 _ rfl
  obtain ⟨y14, h14⟩ := hf 14 _ rfl
  obtain ⟨y15, h15⟩ := hf 15 _ rfl
  obtain ⟨y16, h16⟩ := hf 16 _ rfl
  simp only [cells64, cellsB, cellsS, cellsT, cellsP, List.drop_succ_cons, List.drop_zero, List.take_succ_cons, List.take_zero, List.drop, List.take] at h0 h1 h2 h3 h4 h5 h6 h7 h8 h9 h10 h11 h12 h13 h14 h15 h16
  obtain ⟨l0, s0⟩ := ints_sl h0
  obtain ⟨l1, s1⟩ := ints_sl h1
  obtain ⟨z2, rfl⟩ := one_int h2
  obtain ⟨z3, rfl⟩ := one_int h3
  obtain ⟨z4, rfl⟩ := one_int h4
  obtain ⟨z5, rfl⟩ := one_int h5
  obtain ⟨z6, rfl⟩ := one_bool h6
  obtain ⟨z7, rfl⟩ := one_bool h7
  obtain ⟨z8, rfl⟩ := one_bool h8
  obtain ⟨z9, rfl⟩ := one_bool h9
  obtain ⟨z10, rfl⟩ := one_bool h10
  obtain ⟨z11, rfl⟩ := one_int h11
  obtain ⟨z12, rfl⟩ := one_int h12
  obtain ⟨z13, rfl⟩ := one_int h13
  obtain ⟨z24, rfl⟩ := one_int h16
  obtain ⟨xs, n2, _, _, _, hlen, hg⟩ := DataW.trod_struct Try.underlying95 h14
  obtain ⟨xs', n3, _, _, _, hlen', hg'⟩ := DataW.trod_struct Try.underlying96 h15
  have hx : ∀ i, i < 4 → ∃ y, xs[i]? = some y := fun i hi => ⟨_, List.getElem?_eq_getElem (by rw [hlen]; exact hi)⟩
  have hx' : ∀ i, i < 6 → ∃ y, xs'[i]? = some y := fun i hi => ⟨_, List.getElem?_eq_getElem (by rw [hlen']; exact hi)⟩
  obtain ⟨u0, e0⟩ := hx 0 (by omega)
  have t0 := (hg 0 _ rfl).trans e0
  obtain ⟨u1, e1⟩ := hx 1 (by omega)
  have t1 := (hg 1 _ rfl).trans e1
  obtain ⟨u2, e2⟩ := hx 2 (by omega)
  have t2 := (hg 2 _ rfl).trans e2
  obtain ⟨u3, e3⟩ := hx 3 (by omega)
  have t3 := (hg 3 _ rfl).trans e3
  obtain ⟨v0, d0⟩ := hx' 0 (by omega)
  have p0 := (hg' 0 _ rfl).trans d0
  obtain ⟨v1, d1⟩ := hx' 1 (by omega)
  have p1 := (hg' 1 _ rfl).trans d1
  obtain ⟨v2, d2⟩ := hx' 2 (by omega)
  have p2 := (hg' 2 _ rfl).trans d2
  obtain ⟨v3, d3⟩ := hx' 3 (by omega)
  have p3 := (hg' 3 _ rfl).trans d3
  obtain ⟨v4, d4⟩ := hx' 4 (by omega)
  have p4 := (hg' 4 _ rfl).trans d4
  obtain ⟨v5, d5⟩ := hx' 5 (by omega)
  have p5 := (hg' 5 _ rfl).trans d5
  obtain ⟨z14, rfl⟩ := one_int t0
  obtain ⟨z15, rfl⟩ := one_int t1
  obtain ⟨z16, rfl⟩ := one_int t2
  obtain ⟨z17, rfl⟩ := one_int t3
  obtain ⟨z18, rfl⟩ := one_int p0
  obtain ⟨z19, rfl⟩ := one_bool p1
  obtain ⟨z20, rfl⟩ := one_bool p2
  obtain ⟨z21, rfl⟩ := one_int p3
  obtain ⟨z22, rfl⟩ := one_int p4
  obtain ⟨z23, rfl⟩ := one_bool p5
  exact ⟨⟨l0, l1, z2, z3, z4, z5, z6, z7, z8, z9, z10, z11, z12, z13, ⟨z14, z15, z16, z17⟩, ⟨z18, z19, z20, z21, z22, z23⟩, z24⟩, a0, a1, rfl, s0, s1⟩
end Go.Proofs.Ytjjafaikaghlgaa.Args
