/-
  NewPair of the program.
-/
import Derived.Test.YtjjafaikaghlgaaPrAr
import Derived.Test.YtjjafaikaghlgaaPrOk
import Derived.Test.YtjjafaikaghlgaaKys
import Derived.Test.YtjjafaikaghlgaaMcNew
import Derived.Test.YtjjafaikaghlgaaInJ
import Derived.Test.YtjjafaikaghlgaaVax
namespace Go.Proofs.Ytjjafaikaghlgaa.Mem
open Go.ChangeShapes Go.WideShapes Go.RowKit Base Num Slc Slf Rw Tmr Rom Reg Ex
set_option linter.unusedVariables false
set_option linter.unusedSimpArgs false
set_option maxRecDepth 20000

def newPair (a b : List Int) (ka kb : List M3) : Pr × Bool :=
  if romOk a = true ∧ romOk b = true ∧ keysIn ka = true ∧ keysIn kb = true then (⟨[newMc a, newMc b], [ka, kb], [[], []]⟩, true) else (⟨[], [], []⟩, false)
/-- The parts of a pair of a call's own, whatever types their blocks have. -/
structure PParts (B1 B2 B3 : TypeId) (base : Nat) (W : World) (x y z : Value) (uM uS uE : List Value) (p : Pr) : Prop where
  ox : OwnB B1 fIMc base W x uM
  om : All2 (MOwn base W) uM p.ms
  am : AptM x uM
  oy : OwnB B2 fIMs base W y uS
  oi : All2 (OwnF fM base W) uS p.is
  ai : Apt y uS
  oz : OwnB B3 fIEv base W z uE
  ot : All2 (OwnF fE base W) uE p.ts
  az : Apt z uE
section
variable {B1 B2 B3 : TypeId} {base : Nat} {W W' : World} {x y z : Value} {uM uS uE : List Value} {p : Pr}
theorem PParts.keep (h : PParts B1 B2 B3 base W x y z uM uS uE p) (hk : ∀ q, base ≤ q → q < W.heap.size → W'.heap[q]? = W.heap[q]?) : PParts B1 B2 B3 base W' x y z uM uS uE p :=
  ⟨h.ox.kept fun q hq => hk q (h.ox.lt q hq).1 (h.ox.lt q hq).2, h.om.imp fun u l _ _ ho => owns_mc.kept _ _ _ _ _ ho fun q hq => hk q (owns_mc.lt _ _ _ _ _ ho hq).1 (owns_mc.lt _ _ _ _ _ ho hq).2, h.am,
   h.oy.kept fun q hq => hk q (h.oy.lt q hq).1 (h.oy.lt q hq).2, h.oi.imp fun u l _ _ ho => ho.kept fun q hq => hk q (ho.lt q hq).1 (ho.lt q hq).2, h.ai,
   h.oz.kept fun q hq => hk q (h.oz.lt q hq).1 (h.oz.lt q hq).2, h.ot.imp fun u l _ _ ho => ho.kept fun q hq => hk q (ho.lt q hq).1 (ho.lt q hq).2, h.az⟩
theorem PParts.below (h : PParts B1 B2 B3 base W x y z uM uS uE p) (hb : Below W.heap.size W W') : PParts B1 B2 B3 base W' x y z uM uS uE p := h.keep fun q _ hl => hb.block q hl
theorem PParts.sl (h : PParts B1 B2 B3 base W x y z uM uS uE p) : PSl W (.agg #[x, y, z]) p :=
  ⟨x, y, z, rfl, ⟨uM, h.ox.sl okIMc, h.om.imp fun u l _ _ ho => ho.sl⟩, ⟨uS, h.oy.sl okIMs, h.oi.imp fun u l _ _ ho => ho.sl okM⟩, ⟨uE, h.oz.sl okIEv, h.ot.imp fun u l _ _ ho => ho.sl okE⟩⟩
theorem PParts.nil (B1 B2 B3 : TypeId) (base : Nat) (W : World) : PParts B1 B2 B3 base W (.slice none 0 0) (.slice none 0 0) (.slice none 0 0) [] [] [] ⟨[], [], []⟩ :=
  ⟨World.ownsRow_nil _ _ _ _, All2.nil, ⟨fun i j u u' _ h => by simp at h, fun u h => by simp at h⟩, World.ownsRow_nil _ _ _ _, All2.nil, ⟨fun i j u u' _ h => by simp at h, fun u h => by simp at h⟩, World.ownsRow_nil _ _ _ _, All2.nil, ⟨fun i j u u' _ h => by simp at h, fun u h => by simp at h⟩⟩
end
theorem built_zero : Try.prog.built 33 [] = some #[.slice none 0 0, .slice none 0 0, .slice none 0 0] := by kernel_rfl
theorem keysIn_len {l : List M3} (h : keysIn l = true) : l.length ≤ 200 := by
  unfold keysIn at h
  simp only [Bool.and_eq_true] at h
  have h1 := h.1
  unfold inboxOk at h1
  simp only [Bool.and_eq_true, decide_eq_true_eq] at h1
  omega
theorem Args_F {f : Fl Value} (hf : f.Ok) {u : Value} (h : f.V u = u) : f.F u = u.cells.toList := by
  have := hf.val u
  rw [h] at this
  rw [this]
def Apt2 (y1 y2 : Value) : Prop := ∀ p, y1.ownBlock = some p → y2.ownBlock ≠ some p
def pzero : Array Value := Mc.cells (.slice none 0 0) (.slice none 0 0) Mc.nul ++ Mc.cells (.slice none 0 0) (.slice none 0 0) Mc.nul ++ #[.slice none 0 0, .slice none 0 0, .slice none 0 0, .slice none 0 0]
theorem keeps_own (n : Nat) (l : List M3) : Keeps 88 (fun v W => OwnF fM n W v l) :=
  ⟨fun v W W' h hb => h.below hb, fun v W W' g cs h hr ho => h.onto ho (h.not_row hr (by decide))⟩
theorem keeps_two (n : Nat) (l k : List M3) (e : Value → Value → Value) : Keeps 88 (fun v W => ∃ y1 y2, v = e y1 y2 ∧ OwnF fM n W y1 l ∧ OwnF fM n W y2 k ∧ Apt2 y1 y2) :=
  ⟨fun v W W' h hb => by obtain ⟨y1, y2, e, h1, h2, h3⟩ := h; exact ⟨y1, y2, e, h1.below hb, h2.below hb, h3⟩,
   fun v W W' g cs h hr ho => by obtain ⟨y1, y2, e, h1, h2, h3⟩ := h; exact ⟨y1, y2, e, h1.onto ho (h1.not_row hr (by decide)), h2.onto ho (h2.not_row hr (by decide)), h3⟩⟩
theorem built_in (y1 y2 : Value) (o1 : y1.oneCell' = true) (o2 : y2.oneCell' = true) : Try.prog.built 84 [(0, y1), (1, y2)] = some #[y1, y2] := by
  cases y1 <;> first | (simp [Value.oneCell'] at o1; done) | (cases y2 <;> first | (simp [Value.oneCell'] at o2; done) | kernel_rfl)
theorem alPr_op {o : Oper} {a : Act} {w : World} {K : Act → World → Prop} {Q : Exit → Act → World → Prop} (ho : o.op = .alloc 88) (h : K (a.put o.dst (.pointer (some ⟨w.heap.size, 0, none⟩))) (w.alloc (.cells pzero 88))) : o.wp Try.prog a w K Q := by
  have e : (execOp a.eval o).run Try.prog w = .ok (.value (.pointer (some ⟨w.heap.size, 0, none⟩))) (w.alloc (.cells pzero 88)) := by
    unfold execOp
    rw [ho]
    kernel_rfl
  unfold Oper.wp
  rw [e]
  exact h
theorem new_below' {w3 w4 w5 : World} (hb : Below w3.heap.size w3 w4) (ho : Onto w3.heap.size w4 w5) : Below w3.heap.size w3 w5 := below_onto hb ho (Nat.le_refl _)
set_option maxHeartbeats 8000000 in
theorem newPair_impl (va vb ka kb : Value) (a b : List Int) (la lb : List M3) (w : World) (ha : Sl w va a) (hb : Sl w vb b) (hka : SlF fM w ka la) (hkb : SlF fM w kb lb) :
    Calls Try.prog 14 #[va, vb, ka, kb] w fun e w' => ∃ x y z uM uS uE, e = .returned (.tuple #[.agg #[x, y, z], .bool (newPair a b la lb).2]) ∧ PParts 82 84 86 w.heap.size w' x y z uM uS uE (newPair a b la lb).1 ∧ Below w.heap.size w w' := by
  cases qa : romOk a
  · have e : newPair a b la lb = (⟨[], [], []⟩, false) := by simp [newPair, qa]
    rw [e]; clear e
    obtain ⟨qb, hqb⟩ : ∃ q, romOk b = q := ⟨_, rfl⟩
    go_enter Try.func14, Try.ntmps14
    go_wp2_with (first
      | (refine al_pr rfl rfl ?_; intro w1 z1 hB1))
    go_at_call 41
    refine (newMachine_impl va a _ (ha.below hB1)).mono ?_
    rintro e w2 ⟨v2, rfl, ⟨r2, m2, rfl, hr2, hm2, hap2⟩, hb2⟩
    have z2 := z1.below hb2
    have B2 := below_more hB1 hb2
    have hz := z1.lt
    clear z1
    rw [qa]
    go_wp2_with (first
      | (refine al_mc rfl rfl ?_; intro w3 y3 hB3)
      | (refine st_mc rfl rfl rfl rfl y3 (one_own hr2) (one_own hm2) ?_; rintro w4 y4 o4 -; have n4 := new_below' hB3 o4; have z4 := z2.below n4; have B4 := below_more B2 n4; have hr4 := hr2.below n4; have hm4 := hm2.below n4))
    go_at_call 41
    refine (newMachine_impl vb b _ (hb.below B4)).mono ?_
    rintro e w5 ⟨v5, rfl, ⟨r5, m5, rfl, hr5, hm5, hap5⟩, hb5⟩
    have z5 := z4.below hb5
    have y5 := y4.below hb5
    have B5 := below_more B4 hb5
    have s4 := B4.size
    have s24 : w2.heap.size ≤ w4.heap.size := n4.size
    have k1 : ∀ p, r2.ownBlock = some p ∨ m2.ownBlock = some p → w1.heap.size ≤ p ∧ p < w2.heap.size := fun p hp => hp.elim (fun h => hr2.lt p h) (fun h => hm2.lt p h)
    have k2 : ∀ p, r5.ownBlock = some p ∨ m5.ownBlock = some p → w4.heap.size ≤ p ∧ p < w5.heap.size := fun p hp => hp.elim (fun h => hr5.lt p h) (fun h => hm5.lt p h)
    have hr45 := hr4.below hb5
    have hm45 := hm4.below hb5
    clear z2 z4 y4 hr2 hm2 hr4 hm4 n4 B2 y3
    rw [hqb]
    go_wp2_with (first
      | (refine al_mc rfl rfl ?_; intro w6 x6 hB6)
      | (refine st_mc rfl rfl rfl rfl x6 (one_own hr5) (one_own hm5) ?_; rintro w7 x7 o7 -; have n7 := new_below' hB6 o7; have z7 := z5.below n7; have y7 := y5.below n7; have B7 := below_more B5 n7; have hr7 := hr45.below n7; have hm7 := hm45.below n7; have gr7 := hr5.below n7; have gm7 := hm5.below n7)
      | (refine st_pr rfl rfl rfl rfl z7 rfl rfl rfl ?_; rintro w9 z9 o9 -))
    refine ret_row_tmp rfl rfl z9 Try.underlying33 rfl sz_ip rfl rfl ?_
    exact ⟨_, _, _, [], [], [], rfl, PParts.nil _ _ _ _ _, below_onto B7 o9 (Nat.le_refl _)⟩
  cases qb : romOk b
  · have e : newPair a b la lb = (⟨[], [], []⟩, false) := by simp [newPair, qb]
    rw [e]; clear e
    go_enter Try.func14, Try.ntmps14
    go_wp2_with (first
      | (refine al_pr rfl rfl ?_; intro w1 z1 hB1))
    go_at_call 41
    refine (newMachine_impl va a _ (ha.below hB1)).mono ?_
    rintro e w2 ⟨v2, rfl, ⟨r2, m2, rfl, hr2, hm2, hap2⟩, hb2⟩
    have z2 := z1.below hb2
    have B2 := below_more hB1 hb2
    have hz := z1.lt
    clear z1
    rw [qa]
    go_wp2_with (first
      | (refine al_mc rfl rfl ?_; intro w3 y3 hB3)
      | (refine st_mc rfl rfl rfl rfl y3 (one_own hr2) (one_own hm2) ?_; rintro w4 y4 o4 -; have n4 := new_below' hB3 o4; have z4 := z2.below n4; have B4 := below_more B2 n4; have hr4 := hr2.below n4; have hm4 := hm2.below n4))
    go_at_call 41
    refine (newMachine_impl vb b _ (hb.below B4)).mono ?_
    rintro e w5 ⟨v5, rfl, ⟨r5, m5, rfl, hr5, hm5, hap5⟩, hb5⟩
    have z5 := z4.below hb5
    have y5 := y4.below hb5
    have B5 := below_more B4 hb5
    have s4 := B4.size
    have s24 : w2.heap.size ≤ w4.heap.size := n4.size
    have k1 : ∀ p, r2.ownBlock = some p ∨ m2.ownBlock = some p → w1.heap.size ≤ p ∧ p < w2.heap.size := fun p hp => hp.elim (fun h => hr2.lt p h) (fun h => hm2.lt p h)
    have k2 : ∀ p, r5.ownBlock = some p ∨ m5.ownBlock = some p → w4.heap.size ≤ p ∧ p < w5.heap.size := fun p hp => hp.elim (fun h => hr5.lt p h) (fun h => hm5.lt p h)
    have hr45 := hr4.below hb5
    have hm45 := hm4.below hb5
    clear z2 z4 y4 hr2 hm2 hr4 hm4 n4 B2 y3
    rw [qb]
    go_wp2_with (first
      | (refine al_mc rfl rfl ?_; intro w6 x6 hB6)
      | (refine st_mc rfl rfl rfl rfl x6 (one_own hr5) (one_own hm5) ?_; rintro w7 x7 o7 -; have n7 := new_below' hB6 o7; have z7 := z5.below n7; have y7 := y5.below n7; have B7 := below_more B5 n7; have hr7 := hr45.below n7; have hm7 := hm45.below n7; have gr7 := hr5.below n7; have gm7 := hm5.below n7)
      | (refine st_pr rfl rfl rfl rfl z7 rfl rfl rfl ?_; rintro w9 z9 o9 -))
    refine ret_row_tmp rfl rfl z9 Try.underlying33 rfl sz_ip rfl rfl ?_
    exact ⟨_, _, _, [], [], [], rfl, PParts.nil _ _ _ _ _, below_onto B7 o9 (Nat.le_refl _)⟩
  cases qk : keysIn la
  · have e : newPair a b la lb = (⟨[], [], []⟩, false) := by simp [newPair, qk]
    rw [e]; clear e
    go_enter Try.func14, Try.ntmps14
    go_wp2_with (first
      | (refine al_pr rfl rfl ?_; intro w1 z1 hB1))
    go_at_call 41
    refine (newMachine_impl va a _ (ha.below hB1)).mono ?_
    rintro e w2 ⟨v2, rfl, ⟨r2, m2, rfl, hr2, hm2, hap2⟩, hb2⟩
    have z2 := z1.below hb2
    have B2 := below_more hB1 hb2
    have hz := z1.lt
    clear z1
    rw [qa]
    go_wp2_with (first
      | (refine al_mc rfl rfl ?_; intro w3 y3 hB3)
      | (refine st_mc rfl rfl rfl rfl y3 (one_own hr2) (one_own hm2) ?_; rintro w4 y4 o4 -; have n4 := new_below' hB3 o4; have z4 := z2.below n4; have B4 := below_more B2 n4; have hr4 := hr2.below n4; have hm4 := hm2.below n4))
    go_at_call 41
    refine (newMachine_impl vb b _ (hb.below B4)).mono ?_
    rintro e w5 ⟨v5, rfl, ⟨r5, m5, rfl, hr5, hm5, hap5⟩, hb5⟩
    have z5 := z4.below hb5
    have y5 := y4.below hb5
    have B5 := below_more B4 hb5
    have s4 := B4.size
    have s24 : w2.heap.size ≤ w4.heap.size := n4.size
    have k1 : ∀ p, r2.ownBlock = some p ∨ m2.ownBlock = some p → w1.heap.size ≤ p ∧ p < w2.heap.size := fun p hp => hp.elim (fun h => hr2.lt p h) (fun h => hm2.lt p h)
    have k2 : ∀ p, r5.ownBlock = some p ∨ m5.ownBlock = some p → w4.heap.size ≤ p ∧ p < w5.heap.size := fun p hp => hp.elim (fun h => hr5.lt p h) (fun h => hm5.lt p h)
    have hr45 := hr4.below hb5
    have hm45 := hm4.below hb5
    clear z2 z4 y4 hr2 hm2 hr4 hm4 n4 B2 y3
    rw [qb]
    go_wp2_with (first
      | (refine al_mc rfl rfl ?_; intro w6 x6 hB6)
      | (refine st_mc rfl rfl rfl rfl x6 (one_own hr5) (one_own hm5) ?_; rintro w7 x7 o7 -; have n7 := new_below' hB6 o7; have z7 := z5.below n7; have y7 := y5.below n7; have B7 := below_more B5 n7; have hr7 := hr45.below n7; have hm7 := hm45.below n7; have gr7 := hr5.below n7; have gm7 := hm5.below n7))
    go_at_call 42
    refine (keysIn_impl ka la _ (hka.below B7)).mono ?_
    rintro e w8 ⟨rfl, hb8⟩
    rw [qk]
    have z8 := z7.below hb8
    have y8 := y7.below hb8
    have x8 := x7.below hb8
    have B8 := below_more B7 hb8
    go_wp2_with (first
      | (refine st_pr rfl rfl rfl rfl z8 rfl rfl rfl ?_; rintro w9 z9 o9 -))
    refine ret_row_tmp rfl rfl z9 Try.underlying33 rfl sz_ip rfl rfl ?_
    exact ⟨_, _, _, [], [], [], rfl, PParts.nil _ _ _ _ _, below_onto B8 o9 (Nat.le_refl _)⟩
  cases ql : keysIn lb
  · have e : newPair a b la lb = (⟨[], [], []⟩, false) := by simp [newPair, ql]
    rw [e]; clear e
    go_enter Try.func14, Try.ntmps14
    go_wp2_with (first
      | (refine al_pr rfl rfl ?_; intro w1 z1 hB1))
    go_at_call 41
    refine (newMachine_impl va a _ (ha.below hB1)).mono ?_
    rintro e w2 ⟨v2, rfl, ⟨r2, m2, rfl, hr2, hm2, hap2⟩, hb2⟩
    have z2 := z1.below hb2
    have B2 := below_more hB1 hb2
    have hz := z1.lt
    clear z1
    rw [qa]
    go_wp2_with (first
      | (refine al_mc rfl rfl ?_; intro w3 y3 hB3)
      | (refine st_mc rfl rfl rfl rfl y3 (one_own hr2) (one_own hm2) ?_; rintro w4 y4 o4 -; have n4 := new_below' hB3 o4; have z4 := z2.below n4; have B4 := below_more B2 n4; have hr4 := hr2.below n4; have hm4 := hm2.below n4))
    go_at_call 41
    refine (newMachine_impl vb b _ (hb.below B4)).mono ?_
    rintro e w5 ⟨v5, rfl, ⟨r5, m5, rfl, hr5, hm5, hap5⟩, hb5⟩
    have z5 := z4.below hb5
    have y5 := y4.below hb5
    have B5 := below_more B4 hb5
    have s4 := B4.size
    have s24 : w2.heap.size ≤ w4.heap.size := n4.size
    have k1 : ∀ p, r2.ownBlock = some p ∨ m2.ownBlock = some p → w1.heap.size ≤ p ∧ p < w2.heap.size := fun p hp => hp.elim (fun h => hr2.lt p h) (fun h => hm2.lt p h)
    have k2 : ∀ p, r5.ownBlock = some p ∨ m5.ownBlock = some p → w4.heap.size ≤ p ∧ p < w5.heap.size := fun p hp => hp.elim (fun h => hr5.lt p h) (fun h => hm5.lt p h)
    have hr45 := hr4.below hb5
    have hm45 := hm4.below hb5
    clear z2 z4 y4 hr2 hm2 hr4 hm4 n4 B2 y3
    rw [qb]
    go_wp2_with (first
      | (refine al_mc rfl rfl ?_; intro w6 x6 hB6)
      | (refine st_mc rfl rfl rfl rfl x6 (one_own hr5) (one_own hm5) ?_; rintro w7 x7 o7 -; have n7 := new_below' hB6 o7; have z7 := z5.below n7; have y7 := y5.below n7; have B7 := below_more B5 n7; have hr7 := hr45.below n7; have hm7 := hm45.below n7; have gr7 := hr5.below n7; have gm7 := hm5.below n7))
    go_at_call 42
    refine (keysIn_impl ka la _ (hka.below B7)).mono ?_
    rintro e w8 ⟨rfl, hb8⟩
    rw [qk]
    have z8 := z7.below hb8
    have y8 := y7.below hb8
    have x8 := x7.below hb8
    have B8 := below_more B7 hb8
    go_wp2_with fail
    go_at_call 42
    refine (keysIn_impl kb lb _ (hkb.below B8)).mono ?_
    rintro e w8' ⟨rfl, hb8'⟩
    rw [ql]
    have z8' := z8.below hb8'
    have y8' := y8.below hb8'
    have x8' := x8.below hb8'
    have B8' := below_more B8 hb8'
    go_wp2_with (first
      | (refine st_pr rfl rfl rfl rfl z8' rfl rfl rfl ?_; rintro w9 z9 o9 -))
    refine ret_row_tmp rfl rfl z9 Try.underlying33 rfl sz_ip rfl rfl ?_
    exact ⟨_, _, _, [], [], [], rfl, PParts.nil _ _ _ _ _, below_onto B8' o9 (Nat.le_refl _)⟩
  have e : newPair a b la lb = (⟨[newMc a, newMc b], [la, lb], [[], []]⟩, true) := by simp [newPair, qa, qb, qk, ql]
  rw [e]; clear e
  go_enter Try.func14, Try.ntmps14
  go_wp2_with (first
    | (refine al_pr rfl rfl ?_; intro w1 z1 hB1))
  go_at_call 41
  refine (newMachine_impl va a _ (ha.below hB1)).mono ?_
  rintro e w2 ⟨v2, rfl, ⟨r2, m2, rfl, hr2, hm2, hap2⟩, hb2⟩
  have z2 := z1.below hb2
  have B2 := below_more hB1 hb2
  have hz := z1.lt
  clear z1
  rw [qa]
  go_wp2_with (first
    | (refine al_mc rfl rfl ?_; intro w3 y3 hB3)
    | (refine st_mc rfl rfl rfl rfl y3 (one_own hr2) (one_own hm2) ?_; rintro w4 y4 o4 -; have n4 := new_below' hB3 o4; have z4 := z2.below n4; have B4 := below_more B2 n4; have hr4 := hr2.below n4; have hm4 := hm2.below n4))
  go_at_call 41
  refine (newMachine_impl vb b _ (hb.below B4)).mono ?_
  rintro e w5 ⟨v5, rfl, ⟨r5, m5, rfl, hr5, hm5, hap5⟩, hb5⟩
  have z5 := z4.below hb5
  have y5 := y4.below hb5
  have B5 := below_more B4 hb5
  have s4 := B4.size
  have s24 : w2.heap.size ≤ w4.heap.size := n4.size
  have k1 : ∀ p, r2.ownBlock = some p ∨ m2.ownBlock = some p → w1.heap.size ≤ p ∧ p < w2.heap.size := fun p hp => hp.elim (fun h => hr2.lt p h) (fun h => hm2.lt p h)
  have k2 : ∀ p, r5.ownBlock = some p ∨ m5.ownBlock = some p → w4.heap.size ≤ p ∧ p < w5.heap.size := fun p hp => hp.elim (fun h => hr5.lt p h) (fun h => hm5.lt p h)
  have hr45 := hr4.below hb5
  have hm45 := hm4.below hb5
  clear z2 z4 y4 hr2 hm2 hr4 hm4 n4 B2 y3
  rw [qb]
  go_wp2_with (first
    | (refine al_mc rfl rfl ?_; intro w6 x6 hB6)
    | (refine st_mc rfl rfl rfl rfl x6 (one_own hr5) (one_own hm5) ?_; rintro w7 x7 o7 -; have n7 := new_below' hB6 o7; have z7 := z5.below n7; have y7 := y5.below n7; have B7 := below_more B5 n7; have hr7 := hr45.below n7; have hm7 := hm45.below n7; have gr7 := hr5.below n7; have gm7 := hm5.below n7))
  go_at_call 42
  refine (keysIn_impl ka la _ (hka.below B7)).mono ?_
  rintro e w8 ⟨rfl, hb8⟩
  rw [qk]
  have z8 := z7.below hb8
  have y8 := y7.below hb8
  have x8 := x7.below hb8
  have B8 := below_more B7 hb8
  go_wp2_with fail
  go_at_call 42
  refine (keysIn_impl kb lb _ (hkb.below B8)).mono ?_
  rintro e w8' ⟨rfl, hb8'⟩
  rw [ql]
  have z8' := z8.below hb8'
  have y8' := y8.below hb8'
  have x8' := x8.below hb8'
  have B8' := below_more B8 hb8'
  go_wp2_with fail
  obtain ⟨a2, c2, hv1, -, -, -⟩ := hr7.shape
  obtain ⟨a3, c3, hv2, -, -, -⟩ := hm7.shape
  obtain ⟨a5, c5, hv3, -, -, -⟩ := gr7.shape
  obtain ⟨a6, c6, hv4, -, -, -⟩ := gm7.shape
  have HV : Hid (r2 = .slice a2 (newMc a).rom.length c2 ∧ m2 = .slice a3 (newMc a).ram.length c3 ∧ r5 = .slice a5 (newMc b).rom.length c5 ∧ m5 = .slice a6 (newMc b).ram.length c6) := ⟨hv1, hv2, hv3, hv4⟩
  clear hv1 hv2 hv3 hv4
  have l1 := keysIn_len qk
  have l2 := keysIn_len ql
  obtain ⟨cA, hcA⟩ : ∃ cA, Mc.cells r2 m2 (newMc a) = cA := ⟨_, rfl⟩
  obtain ⟨cB, hcB⟩ : ∃ cB, Mc.cells r5 m5 (newMc b) = cB := ⟨_, rfl⟩
  have hbA : Try.prog.built 82 [(0, .agg cA), (1, .agg cB)] = some (cA ++ cB) := by
    rw [← hcA, ← hcB, HV.out.1, HV.out.2.1, HV.out.2.2.1, HV.out.2.2.2]; kernel_rfl
  have HBP : Hid (∀ y1 y2 : Value, y1.oneCell' = true → y2.oneCell' = true → Try.prog.built 88 [(0, .agg (cA ++ cB)), (1, .agg #[y1, y2])] = some (cA ++ cB ++ #[y1, y2, Value.slice none 0 0, Value.slice none 0 0])) := show ∀ _ _, _ from fun y1 y2 o1 o2 => by
    rw [← hcA, ← hcB, HV.out.1, HV.out.2.1, HV.out.2.2.1, HV.out.2.2.2]
    cases y1 <;> first | (simp [Value.oneCell'] at o1; done) | (cases y2 <;> first | (simp [Value.oneCell'] at o2; done) | kernel_rfl)
  have hsA : cA.size = 25 ∧ cB.size = 25 := by rw [← hcA, ← hcB]; exact ⟨rfl, rfl⟩
  rw [hcA] at y8'
  rw [hcB] at x8'
  have hka8 := hka.below B8'
  have hkb8 := hkb.below B8'
  refine region_vax (by kernel_rfl) (by kernel_rfl) 9 10 14 (by decide) (by decide) rfl rfl (by kernel_rfl) (by decide) (by kernel_rfl) 88 pzero
    (fun cs W => ∃ y1 y2, cs = cA ++ cB ++ #[y1, y2, Value.slice none 0 0, Value.slice none 0 0] ∧ OwnF fM w8'.heap.size W y1 la ∧ OwnF fM w8'.heap.size W y2 lb ∧ Apt2 y1 y2) ?hE
    [KIs (.agg cA), KIs (.agg cB), KIs (.agg (cA ++ cB)), KIs ka, fun v W => OwnF fM w8'.heap.size W v la, KIs kb, fun v W => OwnF fM w8'.heap.size W v lb, fun v W => ∃ y1 y2, v = .agg #[y1, y2] ∧ OwnF fM w8'.heap.size W y1 la ∧ OwnF fM w8'.heap.size W y2 lb ∧ Apt2 y1 y2,
     fun v W => ∃ y1 y2, v = .agg (cA ++ cB ++ #[y1, y2, Value.slice none 0 0, Value.slice none 0 0]) ∧ OwnF fM w8'.heap.size W y1 la ∧ OwnF fM w8'.heap.size W y2 lb ∧ Apt2 y1 y2] ?hl 6 [46, 48] (fun f W => Apt2 (f 46) (f 48)) ?hX (by decide) (by decide) ?step ?alloc ?store ?done
  case hE => exact fun cs W W' h hb => by obtain ⟨y1, y2, e, h1, h2, h3⟩ := h; exact ⟨y1, y2, e, h1.below hb, h2.below hb, h3⟩
  case hl =>
    intro K hK
    simp only [List.mem_cons, List.not_mem_nil, or_false] at hK
    rcases hK with rfl | rfl | rfl | rfl | rfl | rfl | rfl | rfl | rfl
    · exact keeps_is _ _
    · exact keeps_is _ _
    · exact keeps_is _ _
    · exact keeps_is _ _
    · exact keeps_own _ _
    · exact keeps_is _ _
    · exact keeps_own _ _
    · exact keeps_two _ _ _ fun y1 y2 => .agg #[y1, y2]
    · exact keeps_two _ _ _ fun y1 y2 => .agg (cA ++ cB ++ #[y1, y2, Value.slice none 0 0, Value.slice none 0 0])
  case hX => exact ⟨fun f f' W h hx => by rw [h 46 (by simp), h 48 (by simp)]; exact hx, fun f W W' h _ => h, fun f W W' g cs h _ _ => h, by kernel_rfl⟩
  case step =>
    intro L ix o A W hna hns hi hI hB hd
    have hin : ix < 11 := by
      by_cases hl : ix < 11
      · exact hl
      · simp [hl] at hi
    have hsz : A.tmps.size = 52 := hI.size
    rcases ix with _ | _ | _ | _ | _ | _ | _ | _ | _ | _ | _ | ix
    · cases hi
      have e : A.eval (.tmp 10) = .pointer (some ⟨w2.heap.size, 0, none⟩) := hI.old 10 (by kernel_rfl)
      exact at_op rfl rfl (wp_load_row _ _ rfl _ e _ _ _ _ (y8'.below hB).row Try.underlying64 rfl (by rw [hsA.1]; exact info_mc) ⟨_, rfl, rfl, (fun h => by cases h), Below.refl _ _⟩)
    · cases hi
      have e : A.eval (.tmp 12) = .pointer (some ⟨w5.heap.size, 0, none⟩) := hI.old 12 (by kernel_rfl)
      exact at_op rfl rfl (wp_load_row _ _ rfl _ e _ _ _ _ (x8'.below hB).row Try.underlying64 rfl (by rw [hsA.2]; exact info_mc) ⟨_, rfl, rfl, (fun h => by cases h), Below.refl _ _⟩)
    · cases hi
      have e0 : A.eval (.tmp 42) = .agg cA := hI.valX hd 0 42 rfl rfl (by kernel_rfl) (by decide) (by decide)
      have e1 : A.eval (.tmp 43) = .agg cB := hI.valX hd 1 43 rfl rfl (by kernel_rfl) (by decide) (by decide)
      exact at_op rfl rfl (build_op (parts := [(0, .tmp 42), (1, .tmp 43)]) (vals := [(0, .agg cA), (1, .agg cB)]) (cs := cA ++ cB) rfl (by simp only [List.map_cons, List.map_nil, e0, e1]) hbA ⟨_, rfl, rfl, (fun h => by cases h), Below.refl _ _⟩)
    · cases hi
      exact at_op rfl rfl (move_op rfl ⟨_, rfl, hI.old 2 (by kernel_rfl), (fun h => by cases h), Below.refl _ _⟩)
    · cases hi
      have e0 : A.eval (.tmp 45) = ka := hI.valX hd 3 45 rfl rfl (by kernel_rfl) (by decide) (by decide)
      refine at_op rfl rfl (call_op rfl Try.func43 (by kernel_rfl) (by kernel_rfl) ?_)
      simp only [List.map_cons, List.map_nil, e0]
      refine (clone_impl ka la W (hka8.below hB) (by omega)).mono ?_
      rintro e W2 ⟨v, rfl, hv, hbb⟩
      exact ⟨_, rfl, _, rfl, hv.mono hB.size, (fun h => by cases h), hbb⟩
    · cases hi
      exact at_op rfl rfl (move_op rfl ⟨_, rfl, hI.old 3 (by kernel_rfl), (fun h => by cases h), Below.refl _ _⟩)
    · cases hi
      have e0 : A.eval (.tmp 47) = kb := hI.valX hd 5 47 rfl rfl (by kernel_rfl) (by decide) (by decide)
      have t4 : OwnF fM w8'.heap.size W (A.eval (.tmp 46)) la := hI.valX hd 4 46 rfl rfl (by kernel_rfl) (by decide) (by decide)
      refine at_op rfl rfl (call_op rfl Try.func43 (by kernel_rfl) (by kernel_rfl) ?_)
      simp only [List.map_cons, List.map_nil, e0]
      refine (clone_impl kb lb W (hkb8.below hB) (by omega)).mono ?_
      rintro e W2 ⟨v, rfl, hv, hbb⟩
      refine ⟨_, rfl, _, rfl, hv.mono hB.size, fun _ => ?_, hbb⟩
      have e1 : at_ (A.put (some 48) v) 48 = v := getD_put_same _ _ _ (by omega)
      have e2 : at_ (A.put (some 48) v) 46 = A.eval (.tmp 46) := getD_put _ _ _ _ (by simp)
      show Apt2 (at_ (A.put (some 48) v) 46) (at_ (A.put (some 48) v) 48)
      rw [e1, e2]
      exact fun p h1 h2 => by have := (t4.lt p h1).2; have := (hv.lt p h2).1; omega
    · cases hi
      have t4 : OwnF fM w8'.heap.size W (A.eval (.tmp 46)) la := hI.valX hd 4 46 rfl rfl (by kernel_rfl) (by decide) (by decide)
      have t6 : OwnF fM w8'.heap.size W (A.eval (.tmp 48)) lb := hI.valX hd 6 48 rfl rfl (by kernel_rfl) (by decide) (by decide)
      have tx : Apt2 (A.eval (.tmp 46)) (A.eval (.tmp 48)) := hI.xx hd rfl (by kernel_rfl)
      exact at_op rfl rfl (build_op (parts := [(0, .tmp 46), (1, .tmp 48)]) (vals := [(0, A.eval (.tmp 46)), (1, A.eval (.tmp 48))]) (cs := #[A.eval (.tmp 46), A.eval (.tmp 48)]) rfl rfl (built_in _ _ (t4.one okM) (t6.one okM)) ⟨_, rfl, ⟨_, _, rfl, t4, t6, tx⟩, (fun h => by cases h), Below.refl _ _⟩)
    · cases hi
      have e0 : A.eval (.tmp 44) = .agg (cA ++ cB) := hI.valX hd 2 44 rfl rfl (by kernel_rfl) (by decide) (by decide)
      obtain ⟨y1, y2, e1, g1, g2, g3⟩ : ∃ y1 y2 : Value, A.eval (.tmp 49) = .agg #[y1, y2] ∧ OwnF fM w8'.heap.size W y1 la ∧ OwnF fM w8'.heap.size W y2 lb ∧ Apt2 y1 y2 := hI.valX hd 7 49 rfl rfl (by kernel_rfl) (by decide) (by decide)
      exact at_op rfl rfl (build_op (parts := [(0, .tmp 44), (1, .tmp 49)]) (vals := [(0, .agg (cA ++ cB)), (1, .agg #[y1, y2])]) (cs := cA ++ cB ++ #[y1, y2, Value.slice none 0 0, Value.slice none 0 0]) rfl (by simp only [List.map_cons, List.map_nil, e0, e1]) (HBP.out y1 y2 (g1.one okM) (g2.one okM)) ⟨_, rfl, ⟨y1, y2, rfl, g1, g2, g3⟩, (fun h => by cases h), Below.refl _ _⟩)
    · exact absurd rfl hna
    · exact absurd rfl hns
    omega
  case alloc =>
    intro o' A W hj
    cases hj
    exact at_op rfl rfl (alPr_op rfl ⟨rfl, rfl⟩)
  case store =>
    intro L o' A W b' cs hj hI hd eb hr hn
    cases hj
    obtain ⟨y1, y2, e1, g1, g2, g3⟩ : ∃ y1 y2 : Value, A.eval (.tmp 50) = .agg (cA ++ cB ++ #[y1, y2, Value.slice none 0 0, Value.slice none 0 0]) ∧ OwnF fM w8'.heap.size W y1 la ∧ OwnF fM w8'.heap.size W y2 lb ∧ Apt2 y1 y2 := hI.valX hd 8 50 rfl rfl (by kernel_rfl) (by decide) (by decide)
    have hs54 : (cA ++ cB ++ #[y1, y2, Value.slice none 0 0, Value.slice none 0 0]).size = 54 := by simp [hsA.1, hsA.2]
    have hall : (cA ++ cB ++ #[y1, y2, Value.slice none 0 0, Value.slice none 0 0]).all (·.oneCell') = true := by
      have o1 := g1.one okM
      have o2 := g2.one okM
      unfold Value.oneCell' at o1 o2
      rw [← hcA, ← hcB, HV.out.1, HV.out.2.1, HV.out.2.2.1, HV.out.2.2.2]
      simp [Mc.cells, Value.oneCell', o1, o2]
    have hon : Onto b' W (W.setRow b' (cA ++ cB ++ #[y1, y2, Value.slice none 0 0, Value.slice none 0 0])) := ⟨rfl, rfl, rfl, by simp, fun k hk _ => setRow_other W b' k _ hk⟩
    exact at_op rfl rfl (wp_store_row _ _ _ rfl b' _ eb e1 _ _ hr.row (by rw [hs54]; kernel_rfl) (by rw [hn, hs54]; rfl) hall ⟨rfl, _, Row.of (setRow_heap W b' _ _ _ _ hr.row), hon, by rw [hs54]; rfl, y1, y2, rfl, g1.onto hon (g1.not_row hr (by decide)), g2.onto hon (g2.not_row hr (by decide)), g3⟩)
  case done =>
    intro A W b' cs hI hB eb hr hE hbl
    obtain ⟨y1, y2, rfl, g1, g2, g3⟩ := hE
    have hA := hI.frame [42, 43, 44, 45, 46, 47, 48, 49, 50, 14] (by kernel_rfl)
    rw [hA]
    simp only [putAll, List.foldl_cons, List.foldl_nil, eb, Act.put, List.setIfInBounds_toArray, List.set_cons_zero, List.set_cons_succ]
    clear hA hI eb
    have z9 := z8'.below hB
    have hB9 := below_more B8' hB
    have hvA : Value.agg cA = Mc.val r2 m2 (newMc a) := congrArg Value.agg hcA.symm
    have hvB : Value.agg cB = Mc.val r5 m5 (newMc b) := congrArg Value.agg hcB.symm
    have hFA : fIMc.F (.agg cA) = cA.toList := by rw [← hcA, HV.out.1, HV.out.2.1]; rfl
    have hFB : fIMc.F (.agg cB) = cB.toList := by rw [← hcB, HV.out.2.2.1, HV.out.2.2.2]; rfl
    have hF1 : fIMs.F y1 = [y1] := by rw [Args_F okIMs (fit_sl W y1 la (g1.sl okM))]; exact cells_one (g1.one okM)
    have hF2 : fIMs.F y2 = [y2] := by rw [Args_F okIMs (fit_sl W y2 lb (g2.sl okM))]; exact cells_one (g2.one okM)
    have hcs : (cA ++ cB ++ #[y1, y2, Value.slice none 0 0, Value.slice none 0 0]).toList = fIMc.flat [.agg cA, .agg cB] ++ fIMs.flat [y1, y2] ++ fIEv.flat [Value.slice none 0 0, Value.slice none 0 0] := by
      have hF3 : fIEv.F (.slice none 0 0) = [.slice none 0 0] := rfl
      simp [Fl.flat, hFA, hFB, hF1, hF2, hF3]
    have sW := hB.size
    have s8 : w5.heap.size ≤ w8'.heap.size := by have := n7.size; have := hb8.size; have := hb8'.size; omega
    have hr9 := ((hr7.below hb8).below hb8').below hB
    have hm9 := ((hm7.below hb8).below hb8').below hB
    have gr9 := ((gr7.below hb8).below hb8').below hB
    have gm9 := ((gm7.below hb8).below hb8').below hB
    have HH : Hid ((Own w1.heap.size W r2 (newMc a).rom ∧ Own w1.heap.size W m2 (newMc a).ram) ∧ Own w4.heap.size W r5 (newMc b).rom ∧ Own w4.heap.size W m5 (newMc b).ram) := ⟨⟨hr9, hm9⟩, gr9, gm9⟩
    have HG : Hid (OwnF fM w8'.heap.size W y1 la ∧ OwnF fM w8'.heap.size W y2 lb ∧ Apt2 y1 y2) := ⟨g1, g2, g3⟩
    have HC : Hid ((cA ++ cB ++ #[y1, y2, Value.slice none 0 0, Value.slice none 0 0]).toList = fIMc.flat [.agg cA, .agg cB] ++ fIMs.flat [y1, y2] ++ fIEv.flat [Value.slice none 0 0, Value.slice none 0 0]) := hcs
    have HAB : Hid (Value.agg cA = Mc.val r2 m2 (newMc a) ∧ Value.agg cB = Mc.val r5 m5 (newMc b)) := ⟨hvA, hvB⟩
    clear hcs hF1 hF2 hFA hFB hvA hvB hr9 hm9 gr9 gm9 g1 g2 g3 hcA hcB hbA hsA
    go_wp2_with fail
    go_at_call 44
    refine (pair_impl W b' _ [.agg cA, .agg cB] [y1, y2] [.slice none 0 0, .slice none 0 0] rfl rfl rfl hr HC.out).mono ?_
    rintro e w9 ⟨x, y, z, rfl, ox, oy, oz, hb9⟩
    have z10 := z9.below hb9
    have hB10 := below_more hB9 hb9
    have o1 := ox.one okIMc
    have o2 := oy.one okIMs
    have o3 := oz.one okIEv
    go_wp2_with (first
      | (refine st_pr rfl rfl rfl rfl z10 o1 o2 o3 ?_; rintro w11 z11 o11 -))
    refine ret_row_tmp rfl rfl z11 Try.underlying33 rfl sz_ip rfl rfl ?_
    have sw := B8'.size
    have t1 := hb2.size
    have t2 := hb5.size
    have sw1 : w.heap.size < w1.heap.size := hz
    have keep : ∀ p, w.heap.size < p → p < w9.heap.size → w11.heap[p]? = w9.heap[p]? := fun p h1 h2 => o11.block p (by omega) h2
    have hx : ∀ {B : TypeId} {f : Fl Value} {v : Value} {us : List Value}, OwnB B f W.heap.size w9 v us → OwnB B f w.heap.size w11 v us := fun h => (h.kept fun p hp => keep p (by have := (h.lt p hp).1; omega) (h.lt p hp).2).mono (by omega)
    have ho : ∀ {n : Nat} {v : Value} {l : List Int}, w.heap.size < n → Own n W v l → Own w.heap.size w11 v l := fun hn h => ((h.below hb9).kept fun p hp => keep p (by have := ((h.below hb9).lt p hp).1; omega) ((h.below hb9).lt p hp).2).mono (by omega)
    have hm : ∀ {v : Value} {l : List M3}, OwnF fM w8'.heap.size W v l → OwnF fM w.heap.size w11 v l := fun h => ((h.below hb9).kept fun p hp => keep p (by have := ((h.below hb9).lt p hp).1; omega) ((h.below hb9).lt p hp).2).mono (by omega)
    refine ⟨x, y, z, _, _, _, rfl, ⟨hx ox, ⟨rfl, fun i u l h1 h2 => ?_⟩, ⟨fun i j u u' hij h1 h2 p hp hp' => ?_, fun u hu p hp e => ?_⟩, hx oy, ⟨rfl, fun i u l h1 h2 => ?_⟩, ⟨fun i j u u' hij h1 h2 p hp hp' => ?_, fun u hu p hp e => ?_⟩, hx oz, ⟨rfl, fun i u l h1 h2 => ?_⟩, ⟨fun i j u u' hij h1 h2 p hp hp' => ?_, fun u hu p hp e => ?_⟩⟩, below_onto hB10 o11 (Nat.le_refl _)⟩
    · rcases i with _ | _ | i
      · simp at h1 h2
        subst h1 h2
        rw [HAB.out.1]
        exact ⟨r2, m2, rfl, ho (by omega) HH.out.1.1, ho (by omega) HH.out.1.2, hap2⟩
      · simp at h1 h2
        subst h1 h2
        rw [HAB.out.2]
        exact ⟨r5, m5, rfl, ho (by omega) HH.out.2.1, ho (by omega) HH.out.2.2, hap5⟩
      · simp at h1
    · rcases i with _ | _ | i <;> rcases j with _ | _ | j <;> simp at h1 h2 hij
      · subst h1 h2
        rw [HAB.out.1] at hp; rw [HAB.out.2] at hp'
        have := k1 p (bk_mc.1 hp); have := k2 p (bk_mc.1 hp'); omega
      · subst h1 h2
        rw [HAB.out.2] at hp; rw [HAB.out.1] at hp'
        have := k2 p (bk_mc.1 hp); have := k1 p (bk_mc.1 hp'); omega
    · have h9 := (ox.lt p e).1
      simp only [List.mem_cons, List.not_mem_nil, or_false] at hu
      rcases hu with rfl | rfl
      · rw [HAB.out.1] at hp
        have := k1 p (bk_mc.1 hp); omega
      · rw [HAB.out.2] at hp
        have := k2 p (bk_mc.1 hp); omega
    · rcases i with _ | _ | i
      · simp at h1 h2
        subst h1 h2
        exact hm HG.out.1
      · simp at h1 h2
        subst h1 h2
        exact hm HG.out.2.1
      · simp at h1
    · rcases i with _ | _ | i <;> rcases j with _ | _ | j <;> simp at h1 h2 hij
      · subst h1 h2; exact HG.out.2.2 p hp hp'
      · subst h1 h2; exact HG.out.2.2 p hp' hp
    · have h9 := (oy.lt p e).1
      simp only [List.mem_cons, List.not_mem_nil, or_false] at hu
      rcases hu with rfl | rfl
      · have := (HG.out.1.lt p hp).2; omega
      · have := (HG.out.2.1.lt p hp).2; omega
    · rcases i with _ | _ | i <;> simp at h1 h2
      · subst h1 h2; exact OwnF.nil _ _ _
      · subst h1 h2; exact OwnF.nil _ _ _
    · rcases i with _ | _ | i <;> simp at h1
      · subst h1; cases hp
      · subst h1; cases hp
    · simp only [List.mem_cons, List.not_mem_nil, or_false, or_self] at hu
      subst hu
      cases hp
end Go.Proofs.Ytjjafaikaghlgaa.Mem
