/-
  Inboxes: the program's InboxWith, and the library's own functions that it calls.
-/
import Derived.Test.YtlhmhhcjnildcaaInI
import Derived.Test.YtlhmhhcjnildcaaInb2
import Derived.Lib.AppendZerosOnto
namespace Go.Proofs.Ytlhmhhcjnildcaa.Mem
open Go.ChangeShapes Go.WideShapes Go.RowKit Base Num Slc Slf Rw Tmr Reg
set_option linter.unusedVariables false
set_option linter.unusedSimpArgs false
set_option maxRecDepth 20000

theorem later_up {a b m : M3} (h1 : later a m = true) (h2 : later a b = false) : later b m = true := by
  revert h1 h2
  unfold later
  simp only [Bool.or_eq_true, Bool.and_eq_true, beq_iff_eq, decide_eq_true_eq, Bool.or_eq_false_iff, Bool.and_eq_false_iff, beq_eq_false_iff_ne, ne_eq, decide_eq_false_iff_not]
  omega
/-- Where it comes in, found from the beginning. -/
theorem insAt_is {l : List M3} {m : M3} {k : Nat} (hs : ∀ i, i + 1 < l.length → later (M3.at' l i) (M3.at' l (i + 1)) = false) (hk : k ≤ l.length)
    (h1 : ∀ j, j < k → later (M3.at' l j) m = false) (h2 : k < l.length → later (M3.at' l k) m = true) : insAt l m l.length = k := by
  have up : ∀ d, k + d < l.length → later (M3.at' l (k + d)) m = true := by
    intro d
    induction d with
    | zero => exact h2
    | succ d ih => intro h; exact later_up (ih (by omega)) (hs (k + d) (by omega))
  have hq := insAt_le l m l.length
  have h3 := insAt_later l m l.length
  have h4 := insAt_not l m l.length
  generalize insAt l m l.length = q at hq h3 h4 ⊢
  by_cases c : q < k
  · have := h3 q (Nat.le_refl _) (by omega)
    rw [h1 q c] at this
    cases this
  · by_cases c2 : k < q
    · have := h4 (by omega)
      have := up (q - 1 - k) (by omega)
      rw [show k + (q - 1 - k) = q - 1 by omega] at this
      simp_all
    · omega
theorem undInt : Try.prog.underlying 3 = some (.int .i64) := by kernel_rfl
theorem grow_nil (n : Nat) (w : World) (hn : n ≤ 10000000) : Calls Try.prog 37 #[.slice none 0 0, .int .i64 (n : Int)] w fun e w' => ∃ v', e = .returned v' ∧ OwnF fM w.heap.size w' v' [] ∧ Below w.heap.size w w' := by
  by_cases h0 : n = 0
  · subst h0
    go_enter Try.func37, Try.ntmps37
    go_wp2
    go_ret
    exact ⟨_, rfl, OwnF.nil _ _ _, Below.refl _ _⟩
  · obtain ⟨i0, hi, hz0, hz1, hz2⟩ := info_parts okM.info
    have hs1 : i0.size = 3 := hz1
    have hb1 : i0.bytes = 24 := hz2
    have z25 : ∀ w, (Go.sizeOf 33).run Try.prog w = .ok 3 w := fun w => sizeF okM w
    have hrz : ∀ ty, (Builtin.append_ #[25, 3] ty #[.slice none 0 0, .int .i64 (n : Int)]).run Try.prog w =
        .ok (.slice (some ⟨w.heap.size, 0, none⟩) n (grownCap w n 0 33)) (w.drew.alloc (.cells (#[] ++ Builtin.zeroCells (Value.agg (fM.F fM.z).toArray).cells n ++ Builtin.zeroCells (Value.agg (fM.F fM.z).toArray).cells (grownCap w n 0 33 - n)) 33)) := fun ty => by
      have h := Lib.run_append_grow_zeros w 25 3 ty 33 i0 _ .i64 .i64 okM.und undInt hi hz0 none 0 0 [] (run_firstCells_none w.drew i0.size 0 0 0) n (by omega) (by omega) (by omega) (by omega) (by rw [hb1]; omega)
        (growslice_fits (by omega) (by rw [hb1]; omega))
      rw [Nat.zero_add] at h
      exact h
    have hGn : n ≤ grownCap w n 0 33 := grownCap_ge w _ _ _
    have hGm := grownCap_le_maxLen w n 0 33 (by unfold maxLen; omega)
    obtain ⟨G, hG⟩ : ∃ G, G = grownCap w n 0 33 := ⟨_, rfl⟩
    rw [← hG] at hrz hGn hGm
    clear hG hi hz0 hz1 hz2 hs1 hb1
    obtain ⟨cs, hcs⟩ : ∃ cs : Array Value, #[] ++ Builtin.zeroCells (Value.agg (fM.F fM.z).toArray).cells n ++ Builtin.zeroCells (Value.agg (fM.F fM.z).toArray).cells (G - n) = cs := ⟨_, rfl⟩
    have hsz : cs.size = G * 3 := by
      rw [← hcs]
      simp [Builtin.zeroCells, fM, M3.cs, Value.cells]
      omega
    have HM : Hid (G ≤ maxLen) := hGm
    unfold maxLen at hGm
    rw [hcs] at hrz
    clear hcs
    have HB : Hid (Below w.heap.size w (w.drew.alloc (.cells cs 33))) := ((Below.refl _ w).drew).alloc (Nat.le_refl _) _
    have HO : Hid (OwnF fM w.heap.size (w.drew.alloc (.cells cs 33)) (.slice (some ⟨w.heap.size, 0, none⟩) 0 G) []) :=
      ⟨rfl, .inr ⟨w.heap.size, G, cs, rfl, Nat.le_refl _, heap_alloc_new w.drew _, Nat.zero_le _, HM.out, hsz, by simp [Fl.flat]⟩⟩
    go_enter Try.func37, Try.ntmps37
    go_wp2_with (at_builtin; refine Lib.wpList_append_run _ rfl _ _ _ _ rfl _ _ rfl rfl _ _ (hrz _) ?_)
    go_ret
    exact ⟨_, rfl, HO.out, HB.out⟩
theorem concat3 (g : Nat) (v0 v1 v2 : Value) (l0 l1 l2 : List M3) (w : World) (k0 : w.cell? ⟨g, 0, none⟩ = some v0) (k1 : w.cell? ⟨g, 1, none⟩ = some v1) (k2 : w.cell? ⟨g, 2, none⟩ = some v2)
    (h0 : SlF fM w v0 l0) (h1 : SlF fM w v1 l1) (h2 : SlF fM w v2 l2) (n0 : l0.length ≤ 1000000) (n1 : l1.length ≤ 1000000) (n2 : l2.length ≤ 1000000) :
    Calls Try.prog 28 #[.slice (some ⟨g, 0, none⟩) 3 3] w fun e w' => ∃ v', e = .returned v' ∧ OwnF fM w.heap.size w' v' (l0 ++ l1 ++ l2) ∧ Below w.heap.size w w' := by
  have H0 := h0
  have H1 := h1
  have H2 := h2
  obtain ⟨a0, c0, rfl, -⟩ := h0
  obtain ⟨a1, c1, rfl, -⟩ := h1
  obtain ⟨a2, c2, rfl, -⟩ := h2
  go_enter Try.func28, Try.ntmps28
  go_wp2_with fail
  refine wp_loop_rounds 4 ?_
  rw [rounds_succ]
  go_wp2_with fail
  rw [rounds_succ]
  go_wp2_with fail
  rw [rounds_succ]
  go_wp2_with fail
  rw [rounds_succ]
  go_wp2_with fail
  go_at_call 37
  rw [show (l0.length : Int) + (l1.length : Int) + (l2.length : Int) = ((l0.length + l1.length + l2.length : Nat) : Int) by omega]
  refine (grow_nil _ _ (by omega)).mono ?_
  rintro e w1 ⟨v1, rfl, ho1, hb1⟩
  have s1 := hb1.size
  have lg := cell_lt k0
  have lg' : g < w.heap.size := lg
  have p0 : w1.cell? ⟨g, 0, none⟩ = some (.slice a0 l0.length c0) := by rw [hb1.cell (p := ⟨g, 0, none⟩) lg]; exact k0
  have p1 : w1.cell? ⟨g, 1, none⟩ = some (.slice a1 l1.length c1) := by rw [hb1.cell (p := ⟨g, 1, none⟩) lg]; exact k1
  have p2 : w1.cell? ⟨g, 2, none⟩ = some (.slice a2 l2.length c2) := by rw [hb1.cell (p := ⟨g, 2, none⟩) lg]; exact k2
  clear k0 k1 k2
  have J0 := H0.below hb1
  have J1 := H1.below hb1
  have J2 := H2.below hb1
  have HL : Hid ((0 < l0.length → ∀ k, (Value.slice a0 l0.length c0).ownBlock = some k → k < w.heap.size) ∧ (0 < l1.length → ∀ k, (Value.slice a1 l1.length c1).ownBlock = some k → k < w.heap.size) ∧ (0 < l2.length → ∀ k, (Value.slice a2 l2.length c2).ownBlock = some k → k < w.heap.size)) := ⟨H0.lt, H1.lt, H2.lt⟩
  clear H0 H1 H2
  go_wp2_with fail
  refine wp_loop_rounds 4 ?_
  rw [rounds_succ]
  go_wp2_with (at_builtin; refine appF okM rfl (.tmp 31) (.tmp 32) rfl w.heap.size [] l0 ho1 J0 (by simp; omega) s1 ?_; intro v2 w2 ho2 hg2)
  have ho2' : OwnF fM w.heap.size w2 v2 l0 := by simpa using ho2
  have L1 := ho1.lt
  have hB2 := hb1.grown hg2 s1 (fun q hq => (L1 q hq).1)
  have q1 : w2.cell? ⟨g, 1, none⟩ = some (.slice a1 l1.length c1) := by rw [World.cell?_of_block (a := ⟨g, 1, none⟩) (hg2.block g (by omega) (fun e => by have := (L1 g e.symm).1; omega))]; exact p1
  have q2 : w2.cell? ⟨g, 2, none⟩ = some (.slice a2 l2.length c2) := by rw [World.cell?_of_block (a := ⟨g, 2, none⟩) (hg2.block g (by omega) (fun e => by have := (L1 g e.symm).1; omega))]; exact p2
  have M1 := J1.grown hg2 (fun h0 k hk e => by have := (L1 k hk).1; have := HL.out.2.1 h0 k e; omega)
  have M2 := J2.grown hg2 (fun h0 k hk e => by have := (L1 k hk).1; have := HL.out.2.2 h0 k e; omega)
  have s2 := hB2.size
  clear p0 p1 p2 J0 J1 J2 ho2 hg2 L1 ho1 hb1 s1
  rw [rounds_succ]
  go_wp2_with (at_builtin; refine appF okM rfl (.tmp 31) (.tmp 32) rfl w.heap.size l0 l1 ho2' M1 (by omega) s2 ?_; intro v3 w3 ho3 hg3)
  have L2 := ho2'.lt
  have hB3 := hB2.grown hg3 s2 (fun q hq => (L2 q hq).1)
  have r2 : w3.cell? ⟨g, 2, none⟩ = some (.slice a2 l2.length c2) := by rw [World.cell?_of_block (a := ⟨g, 2, none⟩) (hg3.block g (by omega) (fun e => by have := (L2 g e.symm).1; omega))]; exact q2
  have N2 := M2.grown hg3 (fun h0 k hk e => by have := (L2 k hk).1; have := HL.out.2.2 h0 k e; omega)
  have s3 := hB3.size
  clear q1 q2 M1 M2 hg3 L2 ho2' hB2 s2
  rw [rounds_succ]
  go_wp2_with (at_builtin; refine appF okM rfl (.tmp 31) (.tmp 32) rfl w.heap.size (l0 ++ l1) l2 ho3 N2 (by simp; omega) s3 ?_; intro v4 w4 ho4 hg4)
  have L3 := ho3.lt
  have hB4 := hB3.grown hg4 s3 (fun q hq => (L3 q hq).1)
  clear r2 N2 hg4 L3 ho3 hB3 s3
  rw [rounds_succ]
  go_wp2
  go_ret
  exact ⟨_, rfl, ho4, hB4⟩
theorem clone_impl (v : Value) (l : List M3) (w : World) (h : SlF fM w v l) (hl : l.length ≤ 1000000) :
    Calls Try.prog 27 #[v] w fun e w' => ∃ v', e = .returned v' ∧ OwnF fM w.heap.size w' v' l ∧ Below w.heap.size w w' := by
  have H0 := h
  have ho0 := own_litF fM okM w.heap.size w #[] [] rfl (by decide) (Nat.le_refl _)
  have hs0 := h.below ((Below.refl w.heap.size w).alloc (Nat.le_refl _) (.cells #[] 33))
  obtain ⟨a, c, rfl, -, hlc, hcm, hn⟩ := h
  cases a with
  | none =>
    have : l = [] := List.eq_nil_of_length_eq_zero (hn rfl).1
    subst this
    clear ho0 hs0 H0
    obtain rfl := (hn rfl).2
    have e0 : ∀ w, (binOp .eql 25 (.slice none 0 0) (.slice none 0 0)).run Try.prog w = .ok (.bool true) w := fun w => Lib.run_eql_slice_nil w _ _ none 0 0 0 0 okM.und
    go_enter Try.func27, Try.ntmps27
    go_wp2
    go_ret
    exact ⟨_, rfl, OwnF.nil _ _ _, Below.refl _ _⟩
  | some ad =>
    have e0 : ∀ w, (binOp .eql 25 (.slice (some ad) l.length c) (.slice none 0 0)).run Try.prog w = .ok (.bool false) w := fun w => Lib.run_eql_slice_nil w _ _ (some ad) _ _ 0 0 okM.und
    go_enter Try.func27, Try.ntmps27
    go_wp2_with (at_builtin; refine appF okM rfl (.tmp 5) (.tmp 6) rfl w.heap.size [] l ho0 hs0 (by simp; omega) (by simp) ?_; intro v1 w1 ho1 hg1)
    go_ret
    exact ⟨_, rfl, by simpa using ho1, ((Below.refl w.heap.size w).alloc (Nat.le_refl _) _).grown hg1 (by simp) (fun k hk => by have hk' : some w.heap.size = some k := hk; cases hk'; exact Nat.le_refl _)⟩
end Go.Proofs.Ytlhmhhcjnildcaa.Mem
