/-
  A drawn region, by an invariant that may speak of whether one operation has come.
-/
import Derived.Test.YtocofjimkfffeaaReg4
namespace Go.Proofs.Ytocofjimkfffeaa.Reg
open Go.RowKit Base
set_option linter.unusedVariables false

/-- Some operations have come (L): what is told of each holds of the slots and the world; all else is as it was. -/
structure InvS (ops : Array Oper) (s : Nat) (G : Bool → World → Prop) (T : Nat → (Nat → Value) → World → Prop) (a0 : Act) (L : Nat → Bool) (a : Act) (w : World) : Prop where
  g : G (L s) w
  defers : a.defers = a0.defers
  size : a.tmps.size = a0.tmps.size
  told : ∀ j o, ops[j]? = some o → L j = true → T j (at_ a) w
  rest : ∀ k, (∀ j, L j = true → (ops[j]?).bind (·.dst) ≠ some k) → a.tmps.getD k undef = a0.tmps.getD k undef
  closed : ∀ j o d, ops[j]? = some o → L j = true → d ∈ deps o → L d = true
section
variable {P : Program} {ops : Array Oper} {Q : Exit → Act → World → Prop} {s : Nat} {G : Bool → World → Prop} {T : Nat → (Nat → Value) → World → Prop} {R : Nat → (Nat → Value) → World → World → Prop} {a0 a : Act} {L : Nat → Bool} {w w' : World} {i : Nat} {o : Oper} {v : Value}
theorem InvS.nextS (h : InvS ops s G T a0 L a w) (mono : MonoF ops T R) (ho : ops[i]? = some o) (hL : L i = false)
    (hr : ∀ d ∈ deps o, L d = true) (hT : T i (at_ (a.put o.dst v)) w') (hG : G (L s || s == i) w') (hR : R i (at_ (a.put o.dst v)) w w') : InvS ops s G T a0 (fun j => L j || j == i) (a.put o.dst v) w' where
  g := hG
  defers := (put_defers _ _ _).trans h.defers
  size := (put_size _ _ _).trans h.size
  told := fun j oj hj hl => by
    by_cases hji : j = i
    · subst hji; exact hT
    · have hl' : L j = true := by simpa [hji] using hl
      exact mono L i j o oj (at_ a) _ w w' ho hj hL hl' (fun d hd => h.closed j oj d hj hl' hd) (fun k hk => getD_put _ _ _ _ hk) (h.told j oj hj hl') hR
  rest := fun k hk => by
    have hne : o.dst ≠ some k := fun e => hk i (by simp) (by rw [ho]; exact e)
    rw [getD_put _ _ _ _ hne]
    exact h.rest k (fun j hj => hk j (by simp [hj]))
  closed := fun j o' d hj hl hd' => by
    by_cases e : j = i
    · subst e
      rw [ho] at hj; cases hj
      simp [hr d hd']
    · have hl' : L j = true := by simpa [e] using hl
      simp [h.closed j o' d hj hl' hd']
theorem any_genS (hss : s < ops.size) (hac : acyc ops = true) (mono : MonoF ops T R)
    (step : ∀ (L : Nat → Bool) (i : Nat) (o : Oper) (a : Act) (w : World), ops[i]? = some o → InvS ops s G T a0 L a w → L i = false → (∀ d ∈ deps o, L d = true) →
      wpOp P ops Q i (fun a' w' => ∃ v, a' = a.put o.dst v ∧ T i (at_ (a.put o.dst v)) w' ∧ G (L s || s == i) w' ∧ R i (at_ (a.put o.dst v)) w w') a w)
    (done : ∀ a w, InvS ops s G T a0 (fun _ => true) a w → Q .normal a w) :
    ∀ (fuel : Nat) (listed : Array Bool) (a : Act) (w : World), listed.size = ops.size → left ops.size listed ≤ fuel → InvS ops s G T a0 (fun j => listed.getD j false) a w → wpAny P .any ops Q fuel listed a w := by
  have fin : ∀ (listed : Array Bool) (a : Act) (w : World), listed.size = ops.size → Region.ready .any ops listed = [] → InvS ops s G T a0 (fun j => listed.getD j false) a w → Q .normal a w := fun listed a w hs hr hI => by
    refine done a w ?_
    have hall := all_listed hac hr hs
    have hL : ∀ j o, ops[j]? = some o → listed.getD j false = true := fun j o hj => by
      have hjs : j < ops.size := by
        by_cases hl : j < ops.size
        · exact hl
        · have e : ops[j]? = none := by simp; omega
          rw [e] at hj; cases hj
      have := hall j hjs
      have hjl : j < listed.size := by omega
      simpa [Array.getD_eq_getD_getElem?, Array.getElem?_eq_getElem hjl] using this
    have hg1 : G true w := by
      have hall' := hall s hss
      have h1 := hI.g
      have hjl : s < listed.size := by omega
      have e : listed.getD s false = true := by simpa [Array.getD_eq_getD_getElem?, Array.getElem?_eq_getElem hjl] using hall'
      rw [e] at h1; exact h1
    exact ⟨hg1, hI.defers, hI.size, fun j o hj _ => hI.told j o hj (hL j o hj), fun k hk => hI.rest k (fun j hj => hk j rfl), fun _ _ _ _ _ _ => rfl⟩
  intro fuel
  induction fuel with
  | zero =>
    intro listed a w hs hf hI
    have hr : Region.ready .any ops listed = [] := by
      refine List.eq_nil_iff_forall_not_mem.2 fun i hi => ?_
      obtain ⟨h1, h2, _⟩ := mem_ready.1 hi
      have h0 : left ops.size listed = 0 := by omega
      have := (List.countP_eq_zero.1 h0) i (List.mem_range.2 h1)
      simp [h2] at this
    exact ⟨hr, fin listed a w hs hr hI⟩
  | succ fuel ih =>
    intro listed a w hs hf hI
    refine ⟨fun hr => fin listed a w hs hr hI, fun i hi => ?_⟩
    obtain ⟨h1, h2, o, ho, h3⟩ := mem_ready.1 hi
    have hil : i < listed.size := by omega
    have hLi : listed.getD i false = false := by
      simpa [Array.getD_eq_getD_getElem?, Array.getElem?_eq_getElem hil] using h2
    refine wpOp_mono ?_ (step (fun j => listed.getD j false) i o a w ho hI hLi h3)
    rintro a' w' ⟨v, rfl, hT, hG, hR⟩
    refine ih _ _ _ (by simpa using hs) ?_ ?_
    · have hlt : left ops.size (listed.setIfInBounds i true) < left ops.size listed := by
        refine countP_lt (x := i) (fun x hx => ?_) (List.mem_range.2 h1) (by simp [h2]) ?_
        · by_cases hxi : x = i
          · subst hxi; simp [h2]
          · simpa [Array.getD_eq_getD_getElem?, Array.getElem?_setIfInBounds, Ne.symm hxi] using hx
        · simp [Array.getD_eq_getD_getElem?, hil]
      omega
    · have hI' := hI.nextS mono ho hLi h3 hT hG hR
      have e : (fun j => (listed.setIfInBounds i true).getD j false) = fun j => listed.getD j false || j == i := by
        funext j
        by_cases hj : j = i
        · subst hj; simp [Array.getD_eq_getD_getElem?, hil]
        · simp [Array.getD_eq_getD_getElem?, Ne.symm hj, hj]
      rw [e]
      exact hI'
theorem region_genS {id : Nat} (hm : P.follows .mixedOrders = true) (hac : acyc ops = true) (s : Nat) (hss : s < ops.size) (G : Bool → World → Prop) (T : Nat → (Nat → Value) → World → Prop) (R : Nat → (Nat → Value) → World → World → Prop)
    (mono : MonoF ops T R) (hG : G false w.drew)
    (step : ∀ (L : Nat → Bool) (i : Nat) (o : Oper) (a : Act) (w : World), ops[i]? = some o → InvS ops s G T a0 L a w → L i = false → (∀ d ∈ deps o, L d = true) →
      wpOp P ops Q i (fun a' w' => ∃ v, a' = a.put o.dst v ∧ T i (at_ (a.put o.dst v)) w' ∧ G (L s || s == i) w' ∧ R i (at_ (a.put o.dst v)) w w') a w)
    (done : ∀ a w, InvS ops s G T a0 (fun _ => true) a w → Q .normal a w) : (Code.region id ops true).wp P Q a0 w := by
  have no : ∀ j, (Array.replicate ops.size false).getD j false = true → False := fun j hl => by
    by_cases hj : j < ops.size
    · simp [Array.getD_eq_getD_getElem?, hj] at hl
    · simp [Array.getD_eq_getD_getElem?, hj] at hl
  have hg0 : G ((Array.replicate ops.size false).getD s false) w.drew := by
    have e : (Array.replicate ops.size false).getD s false = false := by simp [Array.getD_eq_getD_getElem?, hss]
    rw [e]; exact hG
  exact wp_region_any hm (any_genS hss hac mono step done ops.size _ a0 w.drew (by simp) (by
    refine Nat.le_trans List.countP_le_length ?_
    simp) ⟨hg0, rfl, rfl, fun j o _ hl => (no j hl).elim, fun _ _ => rfl, fun j o d _ hl _ => (no j hl).elim⟩)
theorem InvS.get (h : InvS ops s G T a0 L a w) (hr : ∀ d ∈ deps o, L d = true) (j : Nat) {oj : Oper} (hj : ops[j]? = some oj) (hd : (deps o).contains j = true) : T j (at_ a) w :=
  h.told j oj hj (hr j (by simpa using hd))
theorem InvS.old (h : InvS ops s G T a0 L a w) (k : Nat) (hk : (ops.all fun o => o.dst != some k) = true) : a.tmps.getD k undef = a0.tmps.getD k undef :=
  h.rest k fun j _ e => by
    cases hj : ops[j]? with
    | none => simp [hj] at e
    | some o =>
      have h1 := (Array.all_eq_true_iff_forall_mem.1 hk) o (Array.mem_of_getElem? hj)
      simp [hj] at e
      simp [e] at h1
end
end Go.Proofs.Ytocofjimkfffeaa.Reg
