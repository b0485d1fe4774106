/-
  NewPair of the model.
-/
import Derived.Test.YtjjafaikaghlgaaPrNw
namespace Go.Proofs.Ytjjafaikaghlgaa.Mem
open Go.ChangeShapes Go.WideShapes Go.RowKit Base Num Slc Slf Rw Tmr Rom Reg Ex
set_option linter.unusedVariables false
set_option linter.unusedSimpArgs false
set_option maxRecDepth 20000

theorem onto_more {g : Nat} {a w w' : World} (h : Onto g a w) (hb : Below w.heap.size w w') : Onto g a w' := h.trans ⟨hb.os, hb.tape, hb.output, hb.size, fun k _ hk => hb.block k hk⟩
theorem on_belowP {g : Nat} {w w' : World} (h : Below w.heap.size w w') : Onto g w w' := ⟨h.os, h.tape, h.output, h.size, fun k _ hk => h.block k hk⟩
def kInb (n : Nat) (la lb : List M3) (v : Value) (W : World) : Prop := ∃ y1 y2, OwnF fIMs n W v [y1, y2] ∧ OwnF fM n W y1 la ∧ OwnF fM n W y2 lb
def kTrc (n : Nat) (v : Value) (W : World) : Prop := ∃ y1 y2, OwnF fIEv n W v [y1, y2] ∧ OwnF fE n W y1 [] ∧ OwnF fE n W y2 []
section
variable {α : Type} {f : Fl α} {o : Oper} {A : Act} {w : World} {K : Act → World → Prop} {Q : Exit → Act → World → Prop} {x y : Operand} {e1 e2 : α}
/-- A literal of two elements; of none. -/
theorem two_op (hf : f.Ok) (ho : o.op = .buildSlice f.S 2 #[(0, x), (1, y)]) (hx : A.eval x = f.V e1) (hy : A.eval y = f.V e2)
    (hfill : Instr.fill (fun i => some (i * f.n, f.n)) ((Array.range (2 * f.n)).map ((f.V f.z).cells[· % (f.V f.z).cells.size]!)) [(0, f.V e1), (1, f.V e2)] = some (f.flat [e1, e2]).toArray)
    (h : ∀ w', OwnF f w.heap.size w' (.slice (some ⟨w.heap.size, 0, none⟩) 2 2) [e1, e2] → Below w.heap.size w w' → K (A.put o.dst (.slice (some ⟨w.heap.size, 0, none⟩) 2 2)) w') : o.wp Try.prog A w K Q := by
  obtain ⟨i0, hi, hz0, hz1, hz2⟩ := info_parts hf.info
  have hn := hf.pos
  refine wp_buildSlice f.S f.T 2 #[(0, x), (1, y)] ho (f.flat [e1, e2]).toArray i0 (f.V f.z) hf.und hi hz0 ?_ ?_ ?_ (h _ ?_ ((Below.refl _ _).alloc (Nat.le_refl _) _))
  · rw [hz1]; have := hf.small; omega
  · rw [hz1]; omega
  · rw [hz1, ← hfill, ← hx, ← hy]; simp
  · exact own_litF f hf w.heap.size w (f.flat [e1, e2]).toArray [e1, e2] (by simp) (by unfold maxLen; simp) (Nat.le_refl _)
theorem none_op (hf : f.Ok) (ho : o.op = .buildSlice f.S 0 #[])
    (h : ∀ w', OwnF f w.heap.size w' (.slice (some ⟨w.heap.size, 0, none⟩) 0 0) [] → Below w.heap.size w w' → K (A.put o.dst (.slice (some ⟨w.heap.size, 0, none⟩) 0 0)) w') : o.wp Try.prog A w K Q := by
  obtain ⟨i0, hi, hz0, hz1, hz2⟩ := info_parts hf.info
  have hr : (Instr.buildSlice f.S 0 #[]).run Try.prog w = .ok (.slice (some ⟨w.heap.size, 0, none⟩) 0 0) (w.alloc (.cells #[] f.T)) := by simp [Instr.buildSlice, run_underlying hf.und, sizeOf, typeInfo, hi, newRow, Instr.fill]; exact congrArg (fun c => w.alloc (Obj.cells c f.T)) (Array.ext (by simp) fun i a b => absurd b (by simp))
  unfold Oper.wp execOp
  simp only [ho, Sem.run_bind]
  simp only [Array.map_empty, List.map_toArray, List.map_nil, hr, Result.andThen_ok]
  exact h _ (own_litF f hf w.heap.size w #[] [] rfl (by unfold maxLen; simp) (Nat.le_refl _)) ((Below.refl _ _).alloc (Nat.le_refl _) _)
end
theorem fill_sl {w : World} {la lb : List M3} (y1 y2 : Value) (h1 : SlF fM w y1 la) (h2 : SlF fM w y2 lb) : Instr.fill (fun i => some (i * fIMs.n, fIMs.n)) ((Array.range (2 * fIMs.n)).map ((fIMs.V fIMs.z).cells[· % (fIMs.V fIMs.z).cells.size]!)) [(0, fIMs.V y1), (1, fIMs.V y2)] = some (fIMs.flat [y1, y2]).toArray := by
  obtain ⟨a1, c1, rfl, _⟩ := h1
  obtain ⟨a2, c2, rfl, _⟩ := h2
  kernel_rfl
theorem fill_se {w : World} {la lb : List M3} (y1 y2 : Value) (h1 : SlF fE w y1 la) (h2 : SlF fE w y2 lb) : Instr.fill (fun i => some (i * fIEv.n, fIEv.n)) ((Array.range (2 * fIEv.n)).map ((fIEv.V fIEv.z).cells[· % (fIEv.V fIEv.z).cells.size]!)) [(0, fIEv.V y1), (1, fIEv.V y2)] = some (fIEv.flat [y1, y2]).toArray := by
  obtain ⟨a1, c1, rfl, _⟩ := h1
  obtain ⟨a2, c2, rfl, _⟩ := h2
  kernel_rfl
set_option maxHeartbeats 8000000 in
theorem newPair_spec (va vb ka kb : Value) (a b : List Int) (la lb : List M3) (w : World) (ha : Sl w va a) (hb : Sl w vb b) (hka : SlF fM w ka la) (hkb : SlF fM w kb lb) :
    Calls Try.prog 11 #[va, vb, ka, kb] w fun e w' => ∃ v, e = .returned (.tuple #[v, .bool (newPair a b la lb).2]) ∧ PSl w' v (newPair a b la lb).1 ∧ Below w.heap.size w w' := by
  cases qa : romOk a
  · have e : newPair a b la lb = (⟨[], [], []⟩, false) := by simp [newPair, qa]
    rw [e]; clear e
    obtain ⟨qb, hqb⟩ : ∃ q, romOk b = q := ⟨_, rfl⟩
    go_enter Try.func11, Try.ntmps11
    go_wp2_with (first
      | (refine al_pr rfl rfl ?_; intro w1 z1 hB1))
    go_at_call 37
    refine (newMachine_spec va a _ (ha.below hB1)).mono ?_
    rintro e w2 ⟨v2, rfl, ⟨r2, m2, rfl, hr2, hm2, hap2⟩, hb2⟩
    have z2 := z1.below hb2
    have B2 := below_more hB1 hb2
    have hz := z1.lt
    clear z1
    rw [qa]
    go_wp2_with (first
      | (refine al_mc rfl rfl ?_; intro w3 y3 hB3)
      | (refine st_mc rfl rfl rfl rfl y3 (one_own hr2) (one_own hm2) ?_; rintro w4 y4 o4 -; have n4 := new_below' hB3 o4; have z4 := z2.below n4; have B4 := below_more B2 n4; have hr4 := hr2.below n4; have hm4 := hm2.below n4))
    go_at_call 37
    refine (newMachine_spec vb b _ (hb.below B4)).mono ?_
    rintro e w5 ⟨v5, rfl, ⟨r5, m5, rfl, hr5, hm5, hap5⟩, hb5⟩
    have z5 := z4.below hb5
    have y5 := y4.below hb5
    have B5 := below_more B4 hb5
    have s4 := B4.size
    have s24 : w2.heap.size ≤ w4.heap.size := n4.size
    have k1 : ∀ p, r2.ownBlock = some p ∨ m2.ownBlock = some p → w1.heap.size ≤ p ∧ p < w2.heap.size := fun p hp => hp.elim (fun h => hr2.lt p h) (fun h => hm2.lt p h)
    have k2 : ∀ p, r5.ownBlock = some p ∨ m5.ownBlock = some p → w4.heap.size ≤ p ∧ p < w5.heap.size := fun p hp => hp.elim (fun h => hr5.lt p h) (fun h => hm5.lt p h)
    have hr45 := hr4.below hb5
    have hm45 := hm4.below hb5
    clear z2 z4 y4 hr2 hm2 hr4 hm4 n4 B2 y3
    rw [hqb]
    go_wp2_with (first
      | (refine al_mc rfl rfl ?_; intro w6 x6 hB6)
      | (refine st_mc rfl rfl rfl rfl x6 (one_own hr5) (one_own hm5) ?_; rintro w7 x7 o7 -; have n7 := new_below' hB6 o7; have z7 := z5.below n7; have y7 := y5.below n7; have B7 := below_more B5 n7; have hr7 := hr45.below n7; have hm7 := hm45.below n7; have gr7 := hr5.below n7; have gm7 := hm5.below n7)
      | (refine st_pr rfl rfl rfl rfl z7 rfl rfl rfl ?_; rintro w9 z9 o9 -))
    refine ret_row_tmp rfl rfl z9 Try.underlying33 rfl sz_ip rfl rfl ?_
    exact ⟨_, rfl, (PParts.nil 0 0 0 0 _).sl, below_onto B7 o9 (Nat.le_refl _)⟩
  cases qb : romOk b
  · have e : newPair a b la lb = (⟨[], [], []⟩, false) := by simp [newPair, qb]
    rw [e]; clear e
    go_enter Try.func11, Try.ntmps11
    go_wp2_with (first
      | (refine al_pr rfl rfl ?_; intro w1 z1 hB1))
    go_at_call 37
    refine (newMachine_spec va a _ (ha.below hB1)).mono ?_
    rintro e w2 ⟨v2, rfl, ⟨r2, m2, rfl, hr2, hm2, hap2⟩, hb2⟩
    have z2 := z1.below hb2
    have B2 := below_more hB1 hb2
    have hz := z1.lt
    clear z1
    rw [qa]
    go_wp2_with (first
      | (refine al_mc rfl rfl ?_; intro w3 y3 hB3)
      | (refine st_mc rfl rfl rfl rfl y3 (one_own hr2) (one_own hm2) ?_; rintro w4 y4 o4 -; have n4 := new_below' hB3 o4; have z4 := z2.below n4; have B4 := below_more B2 n4; have hr4 := hr2.below n4; have hm4 := hm2.below n4))
    go_at_call 37
    refine (newMachine_spec vb b _ (hb.below B4)).mono ?_
    rintro e w5 ⟨v5, rfl, ⟨r5, m5, rfl, hr5, hm5, hap5⟩, hb5⟩
    have z5 := z4.below hb5
    have y5 := y4.below hb5
    have B5 := below_more B4 hb5
    have s4 := B4.size
    have s24 : w2.heap.size ≤ w4.heap.size := n4.size
    have k1 : ∀ p, r2.ownBlock = some p ∨ m2.ownBlock = some p → w1.heap.size ≤ p ∧ p < w2.heap.size := fun p hp => hp.elim (fun h => hr2.lt p h) (fun h => hm2.lt p h)
    have k2 : ∀ p, r5.ownBlock = some p ∨ m5.ownBlock = some p → w4.heap.size ≤ p ∧ p < w5.heap.size := fun p hp => hp.elim (fun h => hr5.lt p h) (fun h => hm5.lt p h)
    have hr45 := hr4.below hb5
    have hm45 := hm4.below hb5
    clear z2 z4 y4 hr2 hm2 hr4 hm4 n4 B2 y3
    rw [qb]
    go_wp2_with (first
      | (refine al_mc rfl rfl ?_; intro w6 x6 hB6)
      | (refine st_mc rfl rfl rfl rfl x6 (one_own hr5) (one_own hm5) ?_; rintro w7 x7 o7 -; have n7 := new_below' hB6 o7; have z7 := z5.below n7; have y7 := y5.below n7; have B7 := below_more B5 n7; have hr7 := hr45.below n7; have hm7 := hm45.below n7; have gr7 := hr5.below n7; have gm7 := hm5.below n7)
      | (refine st_pr rfl rfl rfl rfl z7 rfl rfl rfl ?_; rintro w9 z9 o9 -))
    refine ret_row_tmp rfl rfl z9 Try.underlying33 rfl sz_ip rfl rfl ?_
    exact ⟨_, rfl, (PParts.nil 0 0 0 0 _).sl, below_onto B7 o9 (Nat.le_refl _)⟩
  cases qk : keysIn la
  · have e : newPair a b la lb = (⟨[], [], []⟩, false) := by simp [newPair, qk]
    rw [e]; clear e
    go_enter Try.func11, Try.ntmps11
    go_wp2_with (first
      | (refine al_pr rfl rfl ?_; intro w1 z1 hB1))
    go_at_call 37
    refine (newMachine_spec va a _ (ha.below hB1)).mono ?_
    rintro e w2 ⟨v2, rfl, ⟨r2, m2, rfl, hr2, hm2, hap2⟩, hb2⟩
    have z2 := z1.below hb2
    have B2 := below_more hB1 hb2
    have hz := z1.lt
    clear z1
    rw [qa]
    go_wp2_with (first
      | (refine al_mc rfl rfl ?_; intro w3 y3 hB3)
      | (refine st_mc rfl rfl rfl rfl y3 (one_own hr2) (one_own hm2) ?_; rintro w4 y4 o4 -; have n4 := new_below' hB3 o4; have z4 := z2.below n4; have B4 := below_more B2 n4; have hr4 := hr2.below n4; have hm4 := hm2.below n4))
    go_at_call 37
    refine (newMachine_spec vb b _ (hb.below B4)).mono ?_
    rintro e w5 ⟨v5, rfl, ⟨r5, m5, rfl, hr5, hm5, hap5⟩, hb5⟩
    have z5 := z4.below hb5
    have y5 := y4.below hb5
    have B5 := below_more B4 hb5
    have s4 := B4.size
    have s24 : w2.heap.size ≤ w4.heap.size := n4.size
    have k1 : ∀ p, r2.ownBlock = some p ∨ m2.ownBlock = some p → w1.heap.size ≤ p ∧ p < w2.heap.size := fun p hp => hp.elim (fun h => hr2.lt p h) (fun h => hm2.lt p h)
    have k2 : ∀ p, r5.ownBlock = some p ∨ m5.ownBlock = some p → w4.heap.size ≤ p ∧ p < w5.heap.size := fun p hp => hp.elim (fun h => hr5.lt p h) (fun h => hm5.lt p h)
    have hr45 := hr4.below hb5
    have hm45 := hm4.below hb5
    clear z2 z4 y4 hr2 hm2 hr4 hm4 n4 B2 y3
    rw [qb]
    go_wp2_with (first
      | (refine al_mc rfl rfl ?_; intro w6 x6 hB6)
      | (refine st_mc rfl rfl rfl rfl x6 (one_own hr5) (one_own hm5) ?_; rintro w7 x7 o7 -; have n7 := new_below' hB6 o7; have z7 := z5.below n7; have y7 := y5.below n7; have B7 := below_more B5 n7; have hr7 := hr45.below n7; have hm7 := hm45.below n7; have gr7 := hr5.below n7; have gm7 := hm5.below n7))
    go_at_call 38
    refine (keysIn_spec ka la _ (hka.below B7)).mono ?_
    rintro e w8 ⟨rfl, hb8⟩
    rw [qk]
    have z8 := z7.below hb8
    have y8 := y7.below hb8
    have x8 := x7.below hb8
    have B8 := below_more B7 hb8
    go_wp2_with (first
      | (refine st_pr rfl rfl rfl rfl z8 rfl rfl rfl ?_; rintro w9 z9 o9 -))
    refine ret_row_tmp rfl rfl z9 Try.underlying33 rfl sz_ip rfl rfl ?_
    exact ⟨_, rfl, (PParts.nil 0 0 0 0 _).sl, below_onto B8 o9 (Nat.le_refl _)⟩
  cases ql : keysIn lb
  · have e : newPair a b la lb = (⟨[], [], []⟩, false) := by simp [newPair, ql]
    rw [e]; clear e
    go_enter Try.func11, Try.ntmps11
    go_wp2_with (first
      | (refine al_pr rfl rfl ?_; intro w1 z1 hB1))
    go_at_call 37
    refine (newMachine_spec va a _ (ha.below hB1)).mono ?_
    rintro e w2 ⟨v2, rfl, ⟨r2, m2, rfl, hr2, hm2, hap2⟩, hb2⟩
    have z2 := z1.below hb2
    have B2 := below_more hB1 hb2
    have hz := z1.lt
    clear z1
    rw [qa]
    go_wp2_with (first
      | (refine al_mc rfl rfl ?_; intro w3 y3 hB3)
      | (refine st_mc rfl rfl rfl rfl y3 (one_own hr2) (one_own hm2) ?_; rintro w4 y4 o4 -; have n4 := new_below' hB3 o4; have z4 := z2.below n4; have B4 := below_more B2 n4; have hr4 := hr2.below n4; have hm4 := hm2.below n4))
    go_at_call 37
    refine (newMachine_spec vb b _ (hb.below B4)).mono ?_
    rintro e w5 ⟨v5, rfl, ⟨r5, m5, rfl, hr5, hm5, hap5⟩, hb5⟩
    have z5 := z4.below hb5
    have y5 := y4.below hb5
    have B5 := below_more B4 hb5
    have s4 := B4.size
    have s24 : w2.heap.size ≤ w4.heap.size := n4.size
    have k1 : ∀ p, r2.ownBlock = some p ∨ m2.ownBlock = some p → w1.heap.size ≤ p ∧ p < w2.heap.size := fun p hp => hp.elim (fun h => hr2.lt p h) (fun h => hm2.lt p h)
    have k2 : ∀ p, r5.ownBlock = some p ∨ m5.ownBlock = some p → w4.heap.size ≤ p ∧ p < w5.heap.size := fun p hp => hp.elim (fun h => hr5.lt p h) (fun h => hm5.lt p h)
    have hr45 := hr4.below hb5
    have hm45 := hm4.below hb5
    clear z2 z4 y4 hr2 hm2 hr4 hm4 n4 B2 y3
    rw [qb]
    go_wp2_with (first
      | (refine al_mc rfl rfl ?_; intro w6 x6 hB6)
      | (refine st_mc rfl rfl rfl rfl x6 (one_own hr5) (one_own hm5) ?_; rintro w7 x7 o7 -; have n7 := new_below' hB6 o7; have z7 := z5.below n7; have y7 := y5.below n7; have B7 := below_more B5 n7; have hr7 := hr45.below n7; have hm7 := hm45.below n7; have gr7 := hr5.below n7; have gm7 := hm5.below n7))
    go_at_call 38
    refine (keysIn_spec ka la _ (hka.below B7)).mono ?_
    rintro e w8 ⟨rfl, hb8⟩
    rw [qk]
    have z8 := z7.below hb8
    have y8 := y7.below hb8
    have x8 := x7.below hb8
    have B8 := below_more B7 hb8
    go_wp2_with fail
    go_at_call 38
    refine (keysIn_spec kb lb _ (hkb.below B8)).mono ?_
    rintro e w8' ⟨rfl, hb8'⟩
    rw [ql]
    have z8' := z8.below hb8'
    have y8' := y8.below hb8'
    have x8' := x8.below hb8'
    have B8' := below_more B8 hb8'
    go_wp2_with (first
      | (refine st_pr rfl rfl rfl rfl z8' rfl rfl rfl ?_; rintro w9 z9 o9 -))
    refine ret_row_tmp rfl rfl z9 Try.underlying33 rfl sz_ip rfl rfl ?_
    exact ⟨_, rfl, (PParts.nil 0 0 0 0 _).sl, below_onto B8' o9 (Nat.le_refl _)⟩
  have e : newPair a b la lb = (⟨[newMc a, newMc b], [la, lb], [[], []]⟩, true) := by simp [newPair, qa, qb, qk, ql]
  rw [e]; clear e
  go_enter Try.func11, Try.ntmps11
  go_wp2_with (first
    | (refine al_pr rfl rfl ?_; intro w1 z1 hB1))
  go_at_call 37
  refine (newMachine_spec va a _ (ha.below hB1)).mono ?_
  rintro e w2 ⟨v2, rfl, ⟨r2, m2, rfl, hr2, hm2, hap2⟩, hb2⟩
  have z2 := z1.below hb2
  have B2 := below_more hB1 hb2
  have hz := z1.lt
  clear z1
  rw [qa]
  go_wp2_with (first
    | (refine al_mc rfl rfl ?_; intro w3 y3 hB3)
    | (refine st_mc rfl rfl rfl rfl y3 (one_own hr2) (one_own hm2) ?_; rintro w4 y4 o4 -; have n4 := new_below' hB3 o4; have z4 := z2.below n4; have B4 := below_more B2 n4; have hr4 := hr2.below n4; have hm4 := hm2.below n4))
  go_at_call 37
  refine (newMachine_spec vb b _ (hb.below B4)).mono ?_
  rintro e w5 ⟨v5, rfl, ⟨r5, m5, rfl, hr5, hm5, hap5⟩, hb5⟩
  have z5 := z4.below hb5
  have y5 := y4.below hb5
  have B5 := below_more B4 hb5
  have s4 := B4.size
  have s24 : w2.heap.size ≤ w4.heap.size := n4.size
  have k1 : ∀ p, r2.ownBlock = some p ∨ m2.ownBlock = some p → w1.heap.size ≤ p ∧ p < w2.heap.size := fun p hp => hp.elim (fun h => hr2.lt p h) (fun h => hm2.lt p h)
  have k2 : ∀ p, r5.ownBlock = some p ∨ m5.ownBlock = some p → w4.heap.size ≤ p ∧ p < w5.heap.size := fun p hp => hp.elim (fun h => hr5.lt p h) (fun h => hm5.lt p h)
  have hr45 := hr4.below hb5
  have hm45 := hm4.below hb5
  clear z2 z4 y4 hr2 hm2 hr4 hm4 n4 B2 y3
  rw [qb]
  go_wp2_with (first
    | (refine al_mc rfl rfl ?_; intro w6 x6 hB6)
    | (refine st_mc rfl rfl rfl rfl x6 (one_own hr5) (one_own hm5) ?_; rintro w7 x7 o7 -; have n7 := new_below' hB6 o7; have z7 := z5.below n7; have y7 := y5.below n7; have B7 := below_more B5 n7; have hr7 := hr45.below n7; have hm7 := hm45.below n7; have gr7 := hr5.below n7; have gm7 := hm5.below n7))
  go_at_call 38
  refine (keysIn_spec ka la _ (hka.below B7)).mono ?_
  rintro e w8 ⟨rfl, hb8⟩
  rw [qk]
  have z8 := z7.below hb8
  have y8 := y7.below hb8
  have x8 := x7.below hb8
  have B8 := below_more B7 hb8
  go_wp2_with fail
  go_at_call 38
  refine (keysIn_spec kb lb _ (hkb.below B8)).mono ?_
  rintro e w8' ⟨rfl, hb8'⟩
  rw [ql]
  have z8' := z8.below hb8'
  have y8' := y8.below hb8'
  have x8' := x8.below hb8'
  have B8' := below_more B8 hb8'
  go_wp2_with fail
  obtain ⟨a2, c2, hv1, -, -, -⟩ := hr7.shape
  obtain ⟨a3, c3, hv2, -, -, -⟩ := hm7.shape
  obtain ⟨a5, c5, hv3, -, -, -⟩ := gr7.shape
  obtain ⟨a6, c6, hv4, -, -, -⟩ := gm7.shape
  have l1 := keysIn_len qk
  have l2 := keysIn_len ql
  have hka8 := hka.below B8'
  have hkb8 := hkb.below B8'
  have hf1 : Instr.fill (fun i => some (i * fIMc.n, fIMc.n)) ((Array.range (2 * fIMc.n)).map ((fIMc.V fIMc.z).cells[· % (fIMc.V fIMc.z).cells.size]!)) [(0, fIMc.V (Mc.val r2 m2 (newMc a))), (1, fIMc.V (Mc.val r5 m5 (newMc b)))] = some (fIMc.flat [Mc.val r2 m2 (newMc a), Mc.val r5 m5 (newMc b)]).toArray := by
    rw [hv1, hv2, hv3, hv4]; kernel_rfl
  have hVa : fIMc.V (Mc.val r2 m2 (newMc a)) = Mc.val r2 m2 (newMc a) := by rw [hv1, hv2]; rfl
  have hVb : fIMc.V (Mc.val r5 m5 (newMc b)) = Mc.val r5 m5 (newMc b) := by rw [hv3, hv4]; rfl
  have HF : Hid (Instr.fill (fun i => some (i * fIMc.n, fIMc.n)) ((Array.range (2 * fIMc.n)).map ((fIMc.V fIMc.z).cells[· % (fIMc.V fIMc.z).cells.size]!)) [(0, fIMc.V (Mc.val r2 m2 (newMc a))), (1, fIMc.V (Mc.val r5 m5 (newMc b)))] = some (fIMc.flat [Mc.val r2 m2 (newMc a), Mc.val r5 m5 (newMc b)]).toArray) := hf1
  clear hf1 hv1 hv2 hv3 hv4
  obtain ⟨u1, hu1⟩ : ∃ u, Mc.val r2 m2 (newMc a) = u := ⟨_, rfl⟩
  obtain ⟨u2, hu2⟩ : ∃ u, Mc.val r5 m5 (newMc b) = u := ⟨_, rfl⟩
  have t1 := hb2.size
  have t2 := hb5.size
  have s8 : w5.heap.size ≤ w8'.heap.size := by have := n7.size; have := hb8.size; have := hb8'.size; omega
  obtain ⟨n1, hn1⟩ : ∃ n, w8'.heap.size = n := ⟨_, rfl⟩
  have hgn : w.heap.size < n1 := by omega
  have hr8 := (hr7.below hb8).below hb8'
  have hm8 := (hm7.below hb8).below hb8'
  have gr8 := (gr7.below hb8).below hb8'
  have gm8 := (gm7.below hb8).below hb8'
  have hon : ∀ {W W' : World} {α : Type} {f : Fl α} {v : Value} {l : List α}, OwnF f n1 W v l → Onto w.heap.size W W' → OwnF f n1 W' v l := fun h ho => h.onto ho fun e => by have := (h.lt _ e).1; omega
  let kd : List (Value → World → Prop) := [KIs u1, KIs u2, fun v W => OwnF fIMc n1 W v [u1, u2], KIs ka, fun v W => OwnF fM n1 W v la, KIs kb, fun v W => OwnF fM n1 W v lb, kInb n1 la lb, fun v W => OwnF fE n1 W v [], fun v W => OwnF fE n1 W v [], kTrc n1,
    fun v W => ∃ x y z, v = .agg #[x, y, z] ∧ OwnF fIMc n1 W x [u1, u2] ∧ kInb n1 la lb y W ∧ kTrc n1 z W, KAny, KIs (.bool true)]
  have kkeep : ∀ (j : Nat) (v : Value) (W W' : World), kd.getD j KAny v W → (∀ p, n1 ≤ p → p < W.heap.size → W'.heap[p]? = W.heap[p]?) → kd.getD j KAny v W' := fun j v W W' h hk => by
    have key : ∀ {α : Type} {f : Fl α} {x : Value} {l : List α}, OwnF f n1 W x l → OwnF f n1 W' x l := fun h => h.kept fun p hp => hk p (h.lt p hp).1 (h.lt p hp).2
    have key2 : ∀ {x : Value}, kInb n1 la lb x W → kInb n1 la lb x W' := fun ⟨y1, y2, h1, h2, h3⟩ => ⟨y1, y2, key h1, key h2, key h3⟩
    have key3 : ∀ {x : Value}, kTrc n1 x W → kTrc n1 x W' := fun ⟨y1, y2, h1, h2, h3⟩ => ⟨y1, y2, key h1, key h2, key h3⟩
    rcases j with _ | _ | _ | _ | _ | _ | _ | _ | _ | _ | _ | _ | _ | _ | j
    · exact h
    · exact h
    · exact key h
    · exact h
    · exact key h
    · exact h
    · exact key h
    · exact key2 h
    · exact key h
    · exact key h
    · exact key3 h
    · obtain ⟨x, y, z, e, g1, g2, g3⟩ := h
      exact ⟨x, y, z, e, key g1, key2 g2, key3 g3⟩
    · exact h
    · exact h
    · exact h
  refine region_kl (by kernel_rfl) (by kernel_rfl) (by kernel_rfl) 12 w.heap.size (by decide)
    (fun W => Row W w.heap.size #[.slice none 0 0, .slice none 0 0, .slice none 0 0] 33 ∧ Below w8'.heap.size w8' W)
    (fun W => ∃ x y z, Row W w.heap.size #[x, y, z] 33 ∧ OwnF fIMc n1 W x [u1, u2] ∧ kInb n1 la lb y W ∧ kTrc n1 z W ∧ Onto w.heap.size w8' W)
    (fun j => kd.getD j KAny) ?hG ?hE ?hK ?hKs ?h0 ?step ?last ?done
  case hG => exact fun W W' h hb => ⟨h.1.below hb, below_more h.2 hb⟩
  case hE => exact fun W W' h hb => by obtain ⟨x, y, z, q1, q2, q3, q4, q5⟩ := h; exact ⟨x, y, z, q1.below hb, q2.below hb, kkeep 7 y W W' q3 (fun p _ hl => hb.block p hl), kkeep 10 z W W' q4 (fun p _ hl => hb.block p hl), onto_more q5 hb⟩
  case hK => exact fun j v W W' h hb => kkeep j v W W' h fun p _ hl => hb.block p hl
  case hKs => exact fun j v W W' h hb => kkeep j v W W' h fun p hp hl => hb.block p (by omega) hl
  case h0 => exact ⟨z8'.below (drew_below (n := 1) rfl), drew_below (n := 1) rfl⟩
  case step =>
    intro L ix o A W hns hi hI hg hd
    have hin : ix < 14 := by
      by_cases hl : ix < 14
      · exact hl
      · simp [hl] at hi
    have hsz : A.tmps.size = 53 := hI.size
    rcases ix with _ | _ | _ | _ | _ | _ | _ | _ | _ | _ | _ | _ | _ | _ | ix
    · cases hi
      have hB := (hg (by kernel_rfl)).2
      have e : A.eval (.tmp 10) = .pointer (some ⟨w2.heap.size, 0, none⟩) := hI.old 10 (by kernel_rfl)
      exact at_op rfl rfl (wp_load_row _ _ rfl _ e _ _ _ _ (y8'.below hB).row Try.underlying64 rfl info_mc ⟨_, rfl, hu1, Below.refl _ _⟩)
    · cases hi
      have hB := (hg (by kernel_rfl)).2
      have e : A.eval (.tmp 12) = .pointer (some ⟨w5.heap.size, 0, none⟩) := hI.old 12 (by kernel_rfl)
      exact at_op rfl rfl (wp_load_row _ _ rfl _ e _ _ _ _ (x8'.below hB).row Try.underlying64 rfl info_mc ⟨_, rfl, hu2, Below.refl _ _⟩)
    · cases hi
      have hB := (hg (by kernel_rfl)).2
      have e0 : A.eval (.tmp 41) = u1 := hI.kd hd 0 41 rfl rfl (by kernel_rfl) (by decide)
      have e1 : A.eval (.tmp 42) = u2 := hI.kd hd 1 42 rfl rfl (by kernel_rfl) (by decide)
      have sW := hB.size
      refine at_op rfl rfl (two_op okIMc (e1 := u1) (e2 := u2) rfl (by rw [e0, ← hu1]; exact hVa.symm) (by rw [e1, ← hu2]; exact hVb.symm) (by rw [← hu1, ← hu2]; exact HF.out) fun W2 h2 hb => ⟨_, rfl, h2.mono (by omega), hb⟩)
    · cases hi
      exact at_op rfl rfl (move_op rfl ⟨_, rfl, hI.old 2 (by kernel_rfl), Below.refl _ _⟩)
    · cases hi
      have hB := (hg (by kernel_rfl)).2
      have sW := hB.size
      have e0 : A.eval (.tmp 44) = ka := hI.kd hd 3 44 rfl rfl (by kernel_rfl) (by decide)
      refine at_op rfl rfl (call_op rfl Try.func39 (by kernel_rfl) (by kernel_rfl) ?_)
      simp only [List.map_cons, List.map_nil, e0]
      refine (l9Copy_spec ka la W (hka8.below hB) (by omega)).mono ?_
      rintro e W2 ⟨v, rfl, hv, hbb⟩
      exact ⟨_, rfl, _, rfl, hv.mono (by omega), hbb⟩
    · cases hi
      exact at_op rfl rfl (move_op rfl ⟨_, rfl, hI.old 3 (by kernel_rfl), Below.refl _ _⟩)
    · cases hi
      have hB := (hg (by kernel_rfl)).2
      have sW := hB.size
      have e0 : A.eval (.tmp 46) = kb := hI.kd hd 5 46 rfl rfl (by kernel_rfl) (by decide)
      refine at_op rfl rfl (call_op rfl Try.func39 (by kernel_rfl) (by kernel_rfl) ?_)
      simp only [List.map_cons, List.map_nil, e0]
      refine (l9Copy_spec kb lb W (hkb8.below hB) (by omega)).mono ?_
      rintro e W2 ⟨v, rfl, hv, hbb⟩
      exact ⟨_, rfl, _, rfl, hv.mono (by omega), hbb⟩
    · cases hi
      have hB := (hg (by kernel_rfl)).2
      have sW := hB.size
      have t4 : OwnF fM n1 W (A.eval (.tmp 45)) la := hI.kd hd 4 45 rfl rfl (by kernel_rfl) (by decide)
      have t6 : OwnF fM n1 W (A.eval (.tmp 47)) lb := hI.kd hd 6 47 rfl rfl (by kernel_rfl) (by decide)
      refine at_op rfl rfl (two_op okIMs (e1 := A.eval (.tmp 45)) (e2 := A.eval (.tmp 47)) rfl (fit_sl W _ la (t4.sl okM)).symm (fit_sl W _ lb (t6.sl okM)).symm (fill_sl _ _ (t4.sl okM) (t6.sl okM)) fun W2 h2 hb => ⟨_, rfl, ⟨_, _, h2.mono (by omega), t4.below hb, t6.below hb⟩, hb⟩)
    · cases hi
      have hB := (hg (by kernel_rfl)).2
      have sW := hB.size
      exact at_op rfl rfl (none_op okE rfl fun W2 h2 hb => ⟨_, rfl, h2.mono (by omega), hb⟩)
    · cases hi
      have hB := (hg (by kernel_rfl)).2
      have sW := hB.size
      exact at_op rfl rfl (none_op okE rfl fun W2 h2 hb => ⟨_, rfl, h2.mono (by omega), hb⟩)
    · cases hi
      have hB := (hg (by kernel_rfl)).2
      have sW := hB.size
      have t4 : OwnF fE n1 W (A.eval (.tmp 49)) [] := hI.kd hd 8 49 rfl rfl (by kernel_rfl) (by decide)
      have t6 : OwnF fE n1 W (A.eval (.tmp 50)) [] := hI.kd hd 9 50 rfl rfl (by kernel_rfl) (by decide)
      refine at_op rfl rfl (two_op okIEv (e1 := A.eval (.tmp 49)) (e2 := A.eval (.tmp 50)) rfl (fit_sl W _ [] (t4.sl okE)).symm (fit_sl W _ [] (t6.sl okE)).symm (fill_se _ _ (t4.sl okE) (t6.sl okE)) fun W2 h2 hb => ⟨_, rfl, ⟨_, _, h2.mono (by omega), t4.below hb, t6.below hb⟩, hb⟩)
    · cases hi
      have q1 : OwnF fIMc n1 W (A.eval (.tmp 43)) [u1, u2] := hI.kd hd 2 43 rfl rfl (by kernel_rfl) (by decide)
      have q2 : kInb n1 la lb (A.eval (.tmp 48)) W := hI.kd hd 7 48 rfl rfl (by kernel_rfl) (by decide)
      have q3 : kTrc n1 (A.eval (.tmp 51)) W := hI.kd hd 10 51 rfl rfl (by kernel_rfl) (by decide)
      have o1 := q1.one okIMc
      have o2 : (A.eval (.tmp 48)).oneCell' = true := by obtain ⟨_, _, h, _⟩ := q2; exact h.one okIMs
      have o3 : (A.eval (.tmp 51)).oneCell' = true := by obtain ⟨_, _, h, _⟩ := q3; exact h.one okIEv
      exact at_op rfl rfl (build_op (parts := [(0, .tmp 43), (1, .tmp 48), (2, .tmp 51)]) (vals := [(0, A.eval (.tmp 43)), (1, A.eval (.tmp 48)), (2, A.eval (.tmp 51))]) (cs := #[A.eval (.tmp 43), A.eval (.tmp 48), A.eval (.tmp 51)]) rfl rfl (built_pr _ _ _ o1 o2 o3) ⟨_, rfl, ⟨_, _, _, rfl, q1, q2, q3⟩, Below.refl _ _⟩)
    · exact absurd rfl hns
    · cases hi
      exact at_op rfl rfl (assign_op rfl ⟨_, rfl, rfl, Below.refl _ _⟩)
    omega
  case last =>
    intro L o A W hi hI hg hd
    cases hi
    have e2 : A.eval (.tmp 8) = .pointer (some ⟨w.heap.size, 0, none⟩) := hI.old 8 (by kernel_rfl)
    obtain ⟨x, y, z, ev, q1, q2, q3⟩ : ∃ x y z : Value, A.eval (.tmp 52) = .agg #[x, y, z] ∧ OwnF fIMc n1 W x [u1, u2] ∧ kInb n1 la lb y W ∧ kTrc n1 z W := hI.kd hd 11 52 rfl rfl (by kernel_rfl) (by decide)
    have o1 := q1.one okIMc
    have o2 : y.oneCell' = true := by obtain ⟨_, _, h, _⟩ := q2; exact h.one okIMs
    have o3 : z.oneCell' = true := by obtain ⟨_, _, h, _⟩ := q3; exact h.one okIEv
    unfold Value.oneCell' at o1 o2 o3
    have hon' : Onto w.heap.size W (W.setRow w.heap.size #[x, y, z]) := ⟨rfl, rfl, rfl, by simp, fun k hk _ => setRow_other W w.heap.size k #[x, y, z] hk⟩
    exact at_op rfl rfl (wp_store_row _ _ _ rfl w.heap.size #[x, y, z] e2 ev _ _ hg.1.row sz_ip rfl (by simp only [List.all_toArray, List.all_cons, List.all_nil, Value.oneCell', o1, o2, o3, Bool.and_true]) ⟨_, rfl, ⟨x, y, z, Row.of (setRow_heap W w.heap.size _ #[x, y, z] _ _ hg.1.row), hon q1 hon', kkeep 7 y _ _ q2 (fun p hp hl => hon'.block p (by omega) hl), kkeep 10 z _ _ q3 (fun p hp hl => hon'.block p (by omega) hl), (on_belowP hg.2).trans hon'⟩, hon'⟩)
  case done =>
    intro A W hI hE
    obtain ⟨x, y, z, q1, q2, q3, q4, q5⟩ := hE
    have e9 : A.tmps.getD 9 undef = .bool true := hI.kl 13 9 rfl (by decide)
    have hA := hI.frame [41, 42, 43, 44, 45, 46, 47, 48, 49, 50, 51, 52, 9] (by kernel_rfl)
    rw [hA]
    simp only [putAll, List.foldl_cons, List.foldl_nil, e9, Act.put, List.setIfInBounds_toArray, List.set_cons_zero, List.set_cons_succ]
    clear hA hI e9
    go_wp2
    refine ret_row_tmp rfl rfl q1 Try.underlying33 rfl sz_ip rfl rfl ?_
    obtain ⟨y1, y2, g1, g2, g3⟩ := q3
    obtain ⟨z1, z2, f1, f2, f3⟩ := q4
    have hkp : ∀ {n : Nat} {v : Value} {l : List Int}, w.heap.size < n → Own n w8' v l → Sl W v l := fun hn h => (h.onto q5 (fun e => by have := (h.lt _ e).1; omega)).sl
    refine ⟨_, rfl, ⟨x, y, z, rfl, ⟨_, q2.sl okIMc, rfl, fun i u l h1 h2 => ?_⟩, ⟨_, g1.sl okIMs, rfl, fun i u l h1 h2 => ?_⟩, ⟨_, f1.sl okIEv, rfl, fun i u l h1 h2 => ?_⟩⟩, below_onto B8' q5 (Nat.le_refl _)⟩
    · rcases i with _ | _ | i
      · simp at h1 h2
        subst h1 h2
        exact ⟨r2, m2, hu1.symm, hkp (by omega) hr8, hkp (by omega) hm8⟩
      · simp at h1 h2
        subst h1 h2
        exact ⟨r5, m5, hu2.symm, hkp (by omega) gr8, hkp (by omega) gm8⟩
      · simp at h1
    · rcases i with _ | _ | i
      · simp at h1 h2
        subst h1 h2
        exact g2.sl okM
      · simp at h1 h2
        subst h1 h2
        exact g3.sl okM
      · simp at h1
    · rcases i with _ | _ | i <;> simp at h1 h2
      · subst h1 h2; exact f2.sl okE
      · subst h1 h2; exact f3.sl okE
end Go.Proofs.Ytjjafaikaghlgaa.Mem
