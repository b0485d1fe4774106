/-
  A drawn region, by an invariant that may speak of several slots, where what a step turns may speak of the slot that it fills.
-/
import Derived.Test.YtocofjimkfffeaaReg3
import Derived.OwnWalk
namespace Go.Proofs.Ytocofjimkfffeaa.Reg
open Go.RowKit Base
set_option linter.unusedVariables false

/-- What is told of an operation bears that another one comes for which it does not wait. -/
def MonoF (ops : Array Oper) (T : Nat → (Nat → Value) → World → Prop) (R : Nat → (Nat → Value) → World → World → Prop) : Prop :=
  ∀ (L : Nat → Bool) (i j : Nat) (oi oj : Oper) (f f' : Nat → Value) (w w' : World), ops[i]? = some oi → ops[j]? = some oj → L i = false → L j = true → (∀ d ∈ deps oj, L d = true) →
    (∀ k, oi.dst ≠ some k → f' k = f k) → T j f w → R i f' w w' → T j f' w'

section
variable {P : Program} {ops : Array Oper} {Q : Exit → Act → World → Prop} {G : World → Prop} {T : Nat → (Nat → Value) → World → Prop} {R : Nat → (Nat → Value) → World → World → Prop} {a0 a : Act} {L : Nat → Bool} {w w' : World} {i : Nat} {o : Oper} {v : Value}
theorem InvG.nextF (h : InvG ops G T a0 L a w) (mono : MonoF ops T R) (ho : ops[i]? = some o) (hL : L i = false)
    (hr : ∀ d ∈ deps o, L d = true) (hT : T i (at_ (a.put o.dst v)) w') (hG : G w') (hR : R i (at_ (a.put o.dst v)) w w') : InvG ops G T a0 (fun j => L j || j == i) (a.put o.dst v) w' where
  g := hG
  defers := (put_defers _ _ _).trans h.defers
  size := (put_size _ _ _).trans h.size
  told := fun j oj hj hl => by
    by_cases hji : j = i
    · subst hji; exact hT
    · have hl' : L j = true := by simpa [hji] using hl
      exact mono L i j o oj (at_ a) _ w w' ho hj hL hl' (fun d hd => h.closed j oj d hj hl' hd) (fun k hk => getD_put _ _ _ _ hk) (h.told j oj hj hl') hR
  rest := fun k hk => by
    have hne : o.dst ≠ some k := fun e => hk i (by simp) (by rw [ho]; exact e)
    rw [getD_put _ _ _ _ hne]
    exact h.rest k (fun j hj => hk j (by simp [hj]))
  closed := fun j o' d hj hl hd' => by
    by_cases e : j = i
    · subst e
      rw [ho] at hj; cases hj
      simp [hr d hd']
    · have hl' : L j = true := by simpa [e] using hl
      simp [h.closed j o' d hj hl' hd']
theorem any_genF (hac : acyc ops = true) (mono : MonoF ops T R)
    (step : ∀ (L : Nat → Bool) (i : Nat) (o : Oper) (a : Act) (w : World), ops[i]? = some o → InvG ops G T a0 L a w → L i = false → (∀ d ∈ deps o, L d = true) →
      wpOp P ops Q i (fun a' w' => ∃ v, a' = a.put o.dst v ∧ T i (at_ (a.put o.dst v)) w' ∧ G w' ∧ R i (at_ (a.put o.dst v)) w w') a w)
    (done : ∀ a w, InvG ops G T a0 (fun _ => true) a w → Q .normal a w) :
    ∀ (fuel : Nat) (listed : Array Bool) (a : Act) (w : World), listed.size = ops.size → left ops.size listed ≤ fuel → InvG ops G T a0 (fun j => listed.getD j false) a w → wpAny P .any ops Q fuel listed a w := by
  have fin : ∀ (listed : Array Bool) (a : Act) (w : World), listed.size = ops.size → Region.ready .any ops listed = [] → InvG ops G T a0 (fun j => listed.getD j false) a w → Q .normal a w := fun listed a w hs hr hI => by
    refine done a w ?_
    have hall := all_listed hac hr hs
    have hL : ∀ j o, ops[j]? = some o → listed.getD j false = true := fun j o hj => by
      have hjs : j < ops.size := by
        by_cases hl : j < ops.size
        · exact hl
        · have e : ops[j]? = none := by simp; omega
          rw [e] at hj; cases hj
      have := hall j hjs
      have hjl : j < listed.size := by omega
      simpa [Array.getD_eq_getD_getElem?, Array.getElem?_eq_getElem hjl] using this
    exact ⟨hI.g, hI.defers, hI.size, fun j o hj _ => hI.told j o hj (hL j o hj), fun k hk => hI.rest k (fun j hj => hk j rfl), fun _ _ _ _ _ _ => rfl⟩
  intro fuel
  induction fuel with
  | zero =>
    intro listed a w hs hf hI
    have hr : Region.ready .any ops listed = [] := by
      refine List.eq_nil_iff_forall_not_mem.2 fun i hi => ?_
      obtain ⟨h1, h2, _⟩ := mem_ready.1 hi
      have h0 : left ops.size listed = 0 := by omega
      have := (List.countP_eq_zero.1 h0) i (List.mem_range.2 h1)
      simp [h2] at this
    exact ⟨hr, fin listed a w hs hr hI⟩
  | succ fuel ih =>
    intro listed a w hs hf hI
    refine ⟨fun hr => fin listed a w hs hr hI, fun i hi => ?_⟩
    obtain ⟨h1, h2, o, ho, h3⟩ := mem_ready.1 hi
    have hil : i < listed.size := by omega
    have hLi : listed.getD i false = false := by
      simpa [Array.getD_eq_getD_getElem?, Array.getElem?_eq_getElem hil] using h2
    refine wpOp_mono ?_ (step (fun j => listed.getD j false) i o a w ho hI hLi h3)
    rintro a' w' ⟨v, rfl, hT, hG, hR⟩
    refine ih _ _ _ (by simpa using hs) ?_ ?_
    · have hlt : left ops.size (listed.setIfInBounds i true) < left ops.size listed := by
        refine countP_lt (x := i) (fun x hx => ?_) (List.mem_range.2 h1) (by simp [h2]) ?_
        · by_cases hxi : x = i
          · subst hxi; simp [h2]
          · simpa [Array.getD_eq_getD_getElem?, Array.getElem?_setIfInBounds, Ne.symm hxi] using hx
        · simp [Array.getD_eq_getD_getElem?, hil]
      omega
    · have hI' := hI.nextF mono ho hLi h3 hT hG hR
      have e : (fun j => (listed.setIfInBounds i true).getD j false) = fun j => listed.getD j false || j == i := by
        funext j
        by_cases hj : j = i
        · subst hj; simp [Array.getD_eq_getD_getElem?, hil]
        · simp [Array.getD_eq_getD_getElem?, Ne.symm hj, hj]
      rw [e]
      exact hI'
theorem region_genF {id : Nat} (hm : P.follows .mixedOrders = true) (hac : acyc ops = true) (G : World → Prop) (T : Nat → (Nat → Value) → World → Prop) (R : Nat → (Nat → Value) → World → World → Prop)
    (mono : MonoF ops T R) (hG : G w.drew)
    (step : ∀ (L : Nat → Bool) (i : Nat) (o : Oper) (a : Act) (w : World), ops[i]? = some o → InvG ops G T a0 L a w → L i = false → (∀ d ∈ deps o, L d = true) →
      wpOp P ops Q i (fun a' w' => ∃ v, a' = a.put o.dst v ∧ T i (at_ (a.put o.dst v)) w' ∧ G w' ∧ R i (at_ (a.put o.dst v)) w w') a w)
    (done : ∀ a w, InvG ops G T a0 (fun _ => true) a w → Q .normal a w) : (Code.region id ops true).wp P Q a0 w := by
  have no : ∀ j, (Array.replicate ops.size false).getD j false = true → False := fun j hl => by
    by_cases hj : j < ops.size
    · simp [Array.getD_eq_getD_getElem?, hj] at hl
    · simp [Array.getD_eq_getD_getElem?, hj] at hl
  exact wp_region_any hm (any_genF hac mono step done ops.size _ a0 w.drew (by simp) (by
    refine Nat.le_trans List.countP_le_length ?_
    simp) ⟨hG, rfl, rfl, fun j o _ hl => (no j hl).elim, fun _ _ => rfl, fun j o d _ hl _ => (no j hl).elim⟩)
end
/-- Slots of whose filling R tells enough (X) beside those that are filled already. -/
def supOkX (ops : Array Oper) (S : List (List Nat)) (X : Nat → Nat → Bool) : Bool := (List.range ops.size).all fun j => (S.getD j []).all fun s => (List.range ops.size).all fun i =>
  (ops[i]?).bind (·.dst) != some s || i == j || X i j || (match ops[j]? with | some o => (deps o).contains i | none => true)
section
variable {ops : Array Oper} {T : Nat → (Nat → Value) → World → Prop} {R : Nat → (Nat → Value) → World → World → Prop} {S : List (List Nat)} {X : Nat → Nat → Bool}
theorem mono_supF (hS : supOkX ops S X = true) (hK : ∀ i j f f' w w', i ≠ j → X i j = false → (∀ s ∈ S.getD j [], f' s = f s) → T j f w → R i f' w w' → T j f' w')
    (hX : ∀ i j f f' w w' oi, i ≠ j → X i j = true → ops[i]? = some oi → (∀ k, oi.dst ≠ some k → f' k = f k) → T j f w → R i f' w w' → T j f' w') : MonoF ops T R := by
  intro L i j oi oj f f' w w' hi hj hLi hLj hdep hf hT hRi
  have hne : i ≠ j := fun e => by rw [e, hLj] at hLi; cases hLi
  have hil : i < ops.size := by
    by_cases hl : i < ops.size
    · exact hl
    · have e : ops[i]? = none := by simp; omega
      rw [e] at hi; cases hi
  have hjl : j < ops.size := by
    by_cases hl : j < ops.size
    · exact hl
    · have e : ops[j]? = none := by simp; omega
      rw [e] at hj; cases hj
  cases hx : X i j
  · refine hK i j f f' w w' hne hx (fun s hs => hf s fun e => ?_) hT hRi
    have h1 := List.all_eq_true.1 (List.all_eq_true.1 (List.all_eq_true.1 hS j (List.mem_range.2 hjl)) s hs) i (List.mem_range.2 hil)
    rw [hi, hj] at h1
    simp only [Option.bind_some, e, bne_self_eq_false, Bool.false_or, Bool.or_eq_true, beq_iff_eq, hx, Bool.false_eq_true, or_false] at h1
    rcases h1 with h1 | h1
    · exact hne h1
    · have := hdep i (List.contains_iff_mem.1 h1)
      rw [hLi] at this; cases this
  · exact hX i j f f' w w' oi hne hx hi hf hT hRi
end
section
variable {P : Program} {Q : Exit → Act → World → Prop} {a : Act} {o : Oper} {w : World} {K : Act → World → Prop}
theorem wp_make {t e : TypeId} {i : TypeInfo} {z : Value} {size : Nat} (l c : Operand) (hop : o.op = Op.makeSlice t l c) (base : Nat) (h1 : P.underlying t = some (.slice e)) (h2 : P.info? e = some i) (h3 : i.zero = some z) (h4 : i.size = size)
    (kl kc : IntKind) (n : Nat) (hl : a.eval l = .int kl (n : Int)) (hc : a.eval c = .int kc (n : Int)) (b2 : i.bytes * n ≤ 281474976710656) (b3 : n ≤ maxLen) (b4 : base ≤ w.heap.size)
    (hK : ∀ w', w'.ownsRow base e size (.slice (some ⟨w.heap.size, 0, none⟩) n n) n (madeCells z.cells (n * size)).toList → w.grownBy w' none → K (a.put o.dst (.slice (some ⟨w.heap.size, 0, none⟩) n n)) w') : o.wp P a w K Q := by
  obtain ⟨w', hrun, r1, r2⟩ := run_make_full (P := P) w base t e i z size h1 h2 h3 h4 kl kc n b2 b3 b4
  unfold Oper.wp
  simp [execOp, hop, hl, hc, hrun, Result.andThen]
  exact hK w' r1 r2
end
end Go.Proofs.Ytocofjimkfffeaa.Reg
