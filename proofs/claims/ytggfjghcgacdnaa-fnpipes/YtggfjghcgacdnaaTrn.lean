/-
  A drawn region by an invariant that speaks of all that have come; and one that makes a variable of its own, in which one call turns what another one made ('x, y := f(g(z))': f writes into what g made).
-/
import Derived.Test.YtggfjghcgacdnaaVat
namespace Go.Proofs.Ytggfjghcgacdnaa.Reg
open Go.RowKit Base Rw
set_option linter.unusedVariables false
set_option linter.unusedSimpArgs false
set_option maxRecDepth 20000

/-- Those of L have come: J speaks of them, of the slots, of the world; all else is as it was. -/
structure InvL (ops : Array Oper) (J : (Nat → Bool) → (Nat → Value) → World → Prop) (a0 : Act) (L : Nat → Bool) (a : Act) (w : World) : Prop where
  j : J L (at_ a) w
  defers : a.defers = a0.defers
  size : a.tmps.size = a0.tmps.size
  rest : ∀ k, (∀ j, L j = true → (ops[j]?).bind (·.dst) ≠ some k) → a.tmps.getD k undef = a0.tmps.getD k undef
  closed : ∀ j o d, ops[j]? = some o → L j = true → d ∈ deps o → L d = true
section
variable {P : Program} {ops : Array Oper} {Q : Exit → Act → World → Prop} {J : (Nat → Bool) → (Nat → Value) → World → Prop} {a0 a : Act} {L : Nat → Bool} {w w' : World} {i : Nat} {o : Oper} {v : Value}
theorem InvL.next (h : InvL ops J a0 L a w) (ho : ops[i]? = some o) (hr : ∀ d ∈ deps o, L d = true) (hJ : J (fun j => L j || j == i) (at_ (a.put o.dst v)) w') : InvL ops J a0 (fun j => L j || j == i) (a.put o.dst v) w' where
  j := hJ
  defers := (put_defers _ _ _).trans h.defers
  size := (put_size _ _ _).trans h.size
  rest := fun k hk => by
    have hne : o.dst ≠ some k := fun e => hk i (by simp) (by rw [ho]; exact e)
    rw [getD_put _ _ _ _ hne]
    exact h.rest k (fun j hj => hk j (by simp [hj]))
  closed := fun j o' d hj hl hd' => by
    by_cases e : j = i
    · subst e
      rw [ho] at hj; cases hj
      simp [hr d hd']
    · have hl' : L j = true := by simpa [e] using hl
      simp [h.closed j o' d hj hl' hd']
theorem any_J (hac : acyc ops = true) (hJ : ∀ (L L' : Nat → Bool) f w, (∀ j, j < ops.size → L j = L' j) → J L f w → J L' f w)
    (step : ∀ (L : Nat → Bool) (i : Nat) (o : Oper) (a : Act) (w : World), ops[i]? = some o → InvL ops J a0 L a w → L i = false → (∀ d ∈ deps o, L d = true) →
      wpOp P ops Q i (fun a' w' => ∃ v, a' = a.put o.dst v ∧ J (fun j => L j || j == i) (at_ (a.put o.dst v)) w') a w)
    (done : ∀ a w, InvL ops J a0 (fun _ => true) a w → Q .normal a w) :
    ∀ (fuel : Nat) (listed : Array Bool) (a : Act) (w : World), listed.size = ops.size → left ops.size listed ≤ fuel → InvL ops J a0 (fun j => listed.getD j false) a w → wpAny P .any ops Q fuel listed a w := by
  have fin : ∀ (listed : Array Bool) (a : Act) (w : World), listed.size = ops.size → Region.ready .any ops listed = [] → InvL ops J a0 (fun j => listed.getD j false) a w → Q .normal a w := fun listed a w hs hr hI => by
    refine done a w ?_
    have hall := all_listed hac hr hs
    have hL : ∀ j, j < ops.size → listed.getD j false = true := fun j hjs => by
      have := hall j hjs
      have hjl : j < listed.size := by omega
      simpa [Array.getD_eq_getD_getElem?, Array.getElem?_eq_getElem hjl] using this
    exact ⟨hJ _ _ _ _ (fun j hj => by rw [hL j hj]) hI.j, hI.defers, hI.size, fun k hk => hI.rest k (fun j hj => hk j rfl), fun _ _ _ _ _ _ => rfl⟩
  intro fuel
  induction fuel with
  | zero =>
    intro listed a w hs hf hI
    have hr : Region.ready .any ops listed = [] := by
      refine List.eq_nil_iff_forall_not_mem.2 fun i hi => ?_
      obtain ⟨h1, h2, _⟩ := mem_ready.1 hi
      have h0 : left ops.size listed = 0 := by omega
      have := (List.countP_eq_zero.1 h0) i (List.mem_range.2 h1)
      simp [h2] at this
    exact ⟨hr, fin listed a w hs hr hI⟩
  | succ fuel ih =>
    intro listed a w hs hf hI
    refine ⟨fun hr => fin listed a w hs hr hI, fun i hi => ?_⟩
    obtain ⟨h1, h2, o, ho, h3⟩ := mem_ready.1 hi
    have hil : i < listed.size := by omega
    have hLi : listed.getD i false = false := by
      simpa [Array.getD_eq_getD_getElem?, Array.getElem?_eq_getElem hil] using h2
    refine wpOp_mono ?_ (step (fun j => listed.getD j false) i o a w ho hI hLi h3)
    rintro a' w' ⟨v, rfl, hJ'⟩
    refine ih _ _ _ (by simpa using hs) ?_ ?_
    · have hlt : left ops.size (listed.setIfInBounds i true) < left ops.size listed := by
        refine countP_lt (x := i) (fun x hx => ?_) (List.mem_range.2 h1) (by simp [h2]) ?_
        · by_cases hxi : x = i
          · subst hxi; simp [h2]
          · simpa [Array.getD_eq_getD_getElem?, Array.getElem?_setIfInBounds, Ne.symm hxi] using hx
        · simp [Array.getD_eq_getD_getElem?, hil]
      omega
    · have hI' := hI.next ho h3 hJ'
      have e : (fun j => (listed.setIfInBounds i true).getD j false) = fun j => listed.getD j false || j == i := by
        funext j
        by_cases hj : j = i
        · subst hj; simp [Array.getD_eq_getD_getElem?, hil]
        · simp [Array.getD_eq_getD_getElem?, Ne.symm hj, hj]
      rw [e]
      exact hI'
theorem region_J {id : Nat} (hm : P.follows .mixedOrders = true) (hac : acyc ops = true) (J : (Nat → Bool) → (Nat → Value) → World → Prop) (hJ : ∀ (L L' : Nat → Bool) f w, (∀ j, j < ops.size → L j = L' j) → J L f w → J L' f w) (h0 : J (fun _ => false) (at_ a0) w.drew)
    (step : ∀ (L : Nat → Bool) (i : Nat) (o : Oper) (a : Act) (w : World), ops[i]? = some o → InvL ops J a0 L a w → L i = false → (∀ d ∈ deps o, L d = true) →
      wpOp P ops Q i (fun a' w' => ∃ v, a' = a.put o.dst v ∧ J (fun j => L j || j == i) (at_ (a.put o.dst v)) w') a w)
    (done : ∀ a w, InvL ops J a0 (fun _ => true) a w → Q .normal a w) : (Code.region id ops true).wp P Q a0 w := by
  have e : ∀ j, (Array.replicate ops.size false).getD j false = false := fun j => by
    by_cases hj : j < ops.size
    · simp [Array.getD_eq_getD_getElem?, hj]
    · simp [Array.getD_eq_getD_getElem?, hj]
  exact wp_region_any hm (any_J hac hJ step done ops.size _ a0 w.drew (by simp) (by
    refine Nat.le_trans List.countP_le_length ?_
    simp) ⟨hJ _ _ _ _ (fun j _ => (e j).symm) h0, rfl, rfl, fun _ _ => rfl, fun j o d _ hl _ => by rw [e] at hl; cases hl⟩)
theorem InvL.old (h : InvL ops J a0 L a w) (k : Nat) (hk : (ops.all fun o => o.dst != some k) = true) : a.tmps.getD k undef = a0.tmps.getD k undef :=
  h.rest k fun j _ e => by
    cases hj : ops[j]? with
    | none => simp [hj] at e
    | some o =>
      have h1 := (Array.all_eq_true_iff_forall_mem.1 hk) o (Array.mem_of_getElem? hj)
      simp [hj] at e
      simp [e] at h1
theorem InvL.frame (h : InvL ops J a0 L a w) (ks : List Nat) (hks : dsts ops ks = true) : a = ⟨putAll (fun k => a.tmps.getD k undef) ks a0.tmps, a0.defers⟩ :=
  frame_of h.size h.defers fun k hk => h.rest k fun j _ => dsts_not hks hk j
end
/-- What is told of an operation, where sc may turn what sp made, sa lays a block and ss fills it. -/
def vT (ops : Array Oper) (w0 : World) (T : TypeId) (sa ss sc sp ka n : Nat) (E : Array Value → World → Prop) (l : List (Value → World → Prop)) (L : Nat → Bool) (j : Nat) (f : Nat → Value) (W : World) : Prop :=
  if j = sa then tAt w0 T ka n f W else if j = ss then tIs w0 T ka n E f W else if j = sp ∧ L sc = true then True else ∀ k, (ops[j]?).bind (·.dst) = some k → kinds l j (f k) W
def vJ (ops : Array Oper) (w0 : World) (T : TypeId) (sa ss sc sp ka n : Nat) (E : Array Value → World → Prop) (l : List (Value → World → Prop)) (L : Nat → Bool) (f : Nat → Value) (W : World) : Prop :=
  Below w0.heap.size w0 W ∧ ∀ j o, ops[j]? = some o → L j = true → vT ops w0 T sa ss sc sp ka n E l L j f W
/-- All that stand behind sc wait for it, but sa. -/
def behind (ops : Array Oper) (sa sc : Nat) : Bool := (List.range ops.size).all fun j => decide (j ≤ sc) || j == sa || (wider ops ops.size [j]).contains sc
section
variable {P : Program} {ops : Array Oper} {Q : Exit → Act → World → Prop} {sa ss sc sp ka n : Nat} {T : TypeId} {E : Array Value → World → Prop} {a0 a : Act} {L : Nat → Bool} {w w' w0 : World} {i : Nat} {o : Oper} {v : Value} {l : List (Value → World → Prop)}
theorem InvL.val (h : InvL ops (vJ ops w0 T sa ss sc sp ka n E l) a0 L a w) (hr : ∀ d ∈ deps o, L d = true) (j k : Nat) {oj : Oper} (hj : ops[j]? = some oj) (hk : oj.dst = some k) (hd : (deps o).contains j = true) (h1 : j ≠ sa) (h2 : j ≠ ss) (h3 : j = sp → L sc = false) : kinds l j (a.eval (.tmp k)) w := by
  have := h.j.2 j oj hj (hr j (by simpa using hd))
  unfold vT at this
  rw [if_neg h1, if_neg h2, if_neg (fun e => by have := h3 e.1; rw [e.2] at this; cases this)] at this
  exact this k (by rw [hj]; exact hk)
theorem InvL.last (h : InvL ops (vJ ops w0 T sa ss sc sp ka n E l) a0 (fun _ => true) a w) (j k : Nat) (hj : (ops[j]?).bind (·.dst) = some k) (h1 : j ≠ sa) (h2 : j ≠ ss) (h3 : j ≠ sp) : kinds l j (a.tmps.getD k undef) w := by
  cases hq : ops[j]? with
  | none => simp [hq] at hj
  | some oj =>
    have := h.j.2 j oj hq rfl
    unfold vT at this
    rw [if_neg h1, if_neg h2, if_neg (fun e => h3 e.1)] at this
    exact this k hj
theorem region_tv {id : Nat} (hm : P.follows .mixedOrders = true) (hac : acyc ops = true) (sa ss sc sp ka : Nat) (hsa : sa < ops.size) (hss : ss < ops.size) (hka : (ops[sa]?).bind (·.dst) = some ka) (hn2 : (ops[ss]?).bind (·.dst) = none) (hdep : hasDep ops ss sa = true) (hdp : hasDep ops sc sp = true) (hne : sa ≠ ss) (hca : sc ≠ sa) (hcs : sc ≠ ss) (hcp : sc ≠ sp) (hpa : sp ≠ sa) (hps : sp ≠ ss) (hlt : sc < ss) (hbe : behind ops sa sc = true) (hds : dstOk ops a0.tmps.size = true)
    (T : TypeId) (cs0 : Array Value) (E : Array Value → World → Prop) (hE : ∀ cs W W', E cs W → Below W.heap.size W W' → E cs W') (l : List (Value → World → Prop)) (hl0 : ∀ K ∈ l, Keeps T K)
    (R : World → World → Prop) (hRr : ∀ W W' b cs, R W W' → Row W b cs T → Row W' b cs T) (hRk : ∀ j, j < sc → j ≠ sp → ∀ v W W', kinds l j v W → R W W' → kinds l j v W') (hRb : ∀ W W', Below w.heap.size w W → R W W' → Below w.heap.size w W')
    (step : ∀ (L : Nat → Bool) (i : Nat) (o : Oper) (a : Act) (W : World), i ≠ sa → i ≠ ss → i ≠ sc → ops[i]? = some o → InvL ops (vJ ops w T sa ss sc sp ka cs0.size E l) a0 L a W → Below w.heap.size w W → (∀ d ∈ deps o, L d = true) →
      wpOp P ops Q i (fun a' W' => ∃ v, a' = a.put o.dst v ∧ kinds l i v W' ∧ Below W.heap.size W W') a W)
    (turn : ∀ (L : Nat → Bool) (o : Oper) (a : Act) (W : World), ops[sc]? = some o → InvL ops (vJ ops w T sa ss sc sp ka cs0.size E l) a0 L a W → Below w.heap.size w W → L sc = false → (∀ d ∈ deps o, L d = true) →
      wpOp P ops Q sc (fun a' W' => ∃ v, a' = a.put o.dst v ∧ kinds l sc v W' ∧ R W W') a W)
    (alloc : ∀ (o : Oper) (a : Act) (W : World), ops[sa]? = some o → wpOp P ops Q sa (fun a' W' => a' = a.put o.dst (.pointer (some ⟨W.heap.size, 0, none⟩)) ∧ W' = W.alloc (.cells cs0 T)) a W)
    (store : ∀ (L : Nat → Bool) (o : Oper) (a : Act) (W : World) (b : Nat) (cs : Array Value), ops[ss]? = some o → InvL ops (vJ ops w T sa ss sc sp ka cs0.size E l) a0 L a W → (∀ d ∈ deps o, L d = true) → a.eval (.tmp ka) = .pointer (some ⟨b, 0, none⟩) → Row W b cs T → cs.size = cs0.size →
      wpOp P ops Q ss (fun a' W' => a' = a.put o.dst undef ∧ ∃ csX, Row W' b csX T ∧ Onto b W W' ∧ csX.size = cs0.size ∧ E csX W') a W)
    (done : ∀ a W b cs, InvL ops (vJ ops w T sa ss sc sp ka cs0.size E l) a0 (fun _ => true) a W → Below w.heap.size w W → a.tmps.getD ka undef = .pointer (some ⟨b, 0, none⟩) → Row W b cs T → E cs W → w.heap.size ≤ b → Q .normal a W) : (Code.region id ops true).wp P Q a0 w := by
  have lt_of : ∀ {j : Nat} {o : Oper}, ops[j]? = some o → j < ops.size := fun {j o} hj => by
    by_cases hl : j < ops.size
    · exact hl
    · have e : ops[j]? = none := by simp; omega
      rw [e] at hj; cases hj
  have scl : sc < ops.size := by
    by_cases hl : sc < ops.size
    · exact hl
    · have e : ops[sc]? = none := by simp; omega
      unfold hasDep at hdp
      rw [e] at hdp; cases hdp
  refine region_J hm hac (vJ ops w T sa ss sc sp ka cs0.size E l) ?_ ⟨(Below.refl _ w).drew, fun j o _ h => by cases h⟩ ?_ ?_
  · rintro L L' f W hLL ⟨h1, h2⟩
    refine ⟨h1, fun j o hj hl => ?_⟩
    have := h2 j o hj (by rw [hLL j (lt_of hj)]; exact hl)
    unfold vT at this ⊢
    rwa [← hLL sc scl]
  · intro L i o a W hi hI hL hd
    have hB : Below w.heap.size w W := hI.j.1
    -- what is told of the others when one that is not ss or sc has come
    have keepB : ∀ v W', i ≠ ss → i ≠ sc → Below W.heap.size W W' → vT ops w T sa ss sc sp ka cs0.size E l (fun j => L j || j == i) i (at_ (a.put o.dst v)) W' → vJ ops w T sa ss sc sp ka cs0.size E l (fun j => L j || j == i) (at_ (a.put o.dst v)) W' := fun v W' i2 i3 hb hT => by
      refine ⟨below_more hB hb, fun j oj hj hl => ?_⟩
      by_cases hji : j = i
      · subst hji; exact hT
      have hlj : L j = true := by simpa [hji] using hl
      have h0 := hI.j.2 j oj hj hlj
      have hsc : (L sc || sc == i) = L sc := by simp [Ne.symm i3]
      have hf : ∀ k, (ops[j]?).bind (·.dst) = some k → at_ (a.put o.dst v) k = at_ a k := fun k hk => getD_put _ _ _ _ (fun e => hji (dst_one hds hk (by rw [hi]; exact e)))
      have hfa : i ≠ sa → at_ (a.put o.dst v) ka = at_ a ka := fun i1 => getD_put _ _ _ _ (fun e => i1 (dst_one hds (by rw [hi]; exact e) hka))
      have i1 : j = sa ∨ j = ss → i ≠ sa := fun e h => by
        rcases e with e | e
        · exact hji (e.trans h.symm)
        · have hq := hdep
          unfold hasDep at hq
          rw [← e, hj] at hq
          have := hI.closed j oj sa hj hlj (List.contains_iff_mem.1 hq)
          rw [← h, hL] at this; cases this
      unfold vT at h0 ⊢
      by_cases j1 : j = sa
      · rw [if_pos j1] at h0 ⊢
        obtain ⟨b, cs, e, hb', hr, hn⟩ := h0
        exact ⟨b, cs, (hfa (i1 (.inl j1))).trans e, hb', hr.below hb, hn⟩
      rw [if_neg j1] at h0 ⊢
      by_cases j2 : j = ss
      · rw [if_pos j2] at h0 ⊢
        obtain ⟨b, cs, e, hb', hr, hn, he⟩ := h0
        exact ⟨b, cs, (hfa (i1 (.inr j2))).trans e, hb', hr.below hb, hn, hE _ _ _ he hb⟩
      rw [if_neg j2] at h0 ⊢
      simp only [hsc]
      split at h0
      · rename_i h; rw [if_pos h]; trivial
      · rename_i h
        rw [if_neg h]
        intro k hk
        rw [hf k hk]
        exact (kinds_keep hl0 j).b _ _ _ (h0 k hk) hb
    by_cases i1 : i = sa
    · subst i1
      have hk' : o.dst = some ka := by rw [hi] at hka; exact hka
      refine wpOp_mono ?_ (alloc o a W hi)
      rintro a' W' ⟨rfl, rfl⟩
      have hb1 : Below W.heap.size W (W.alloc (.cells cs0 T)) := (Below.refl _ _).alloc (Nat.le_refl _) _
      refine ⟨_, rfl, keepB _ _ hne (Ne.symm hca) hb1 ?_⟩
      unfold vT
      rw [if_pos rfl, hk']
      refine ⟨W.heap.size, cs0, ?_, hB.size, Row.new W cs0 T, rfl⟩
      show (a.put (some ka) _).tmps.getD ka undef = _
      rw [getD_put_same _ _ _ (by rw [hI.size]; exact dst_lt hds (i := i) (by rw [hi]; exact hk'))]
    by_cases i3 : i = sc
    · subst i3
      refine wpOp_mono ?_ (turn L o a W hi hI hB hL hd)
      rintro a' W' ⟨v, rfl, hv, hR⟩
      refine ⟨v, rfl, hRb _ _ hB hR, fun j oj hj hlj' => ?_⟩
      unfold vT
      by_cases hji : j = i
      · subst hji
        rw [if_neg hca, if_neg hcs, if_neg (fun e => hcp e.1)]
        intro k hk
        rw [hi] at hk
        have hk' : o.dst = some k := hk
        rw [hk']
        show kinds l j ((a.put (some k) v).tmps.getD k undef) W'
        rw [getD_put_same _ _ _ (by rw [hI.size]; exact dst_lt hds (i := j) (by rw [hi]; exact hk'))]
        exact hv
      have hlj : L j = true := by simpa [hji] using hlj'
      have h0 := hI.j.2 j oj hj hlj
      unfold vT at h0
      have beh : j = sa ∨ j < i := by
        have h1 := List.all_eq_true.1 hbe j (List.mem_range.2 (lt_of hj))
        simp only [Bool.or_eq_true, decide_eq_true_eq, beq_iff_eq] at h1
        rcases h1 with (h1 | h1) | h1
        · exact .inr (by omega)
        · exact .inl h1
        · have := wider_listed hI.closed ops.size [j] (fun x hx => by rw [List.mem_singleton] at hx; rw [hx]; exact hlj) i (List.contains_iff_mem.1 h1)
          rw [hL] at this; cases this
      have hf : ∀ k, (ops[j]?).bind (·.dst) = some k → at_ (a.put o.dst v) k = at_ a k := fun k hk => getD_put _ _ _ _ (fun e => hji (dst_one hds hk (by rw [hi]; exact e)))
      by_cases j1 : j = sa
      · rw [if_pos j1] at h0 ⊢
        obtain ⟨b, cs, e, hb', hr, hn⟩ := h0
        exact ⟨b, cs, (hf ka (by rw [j1]; exact hka)).trans e, hb', hRr _ _ _ _ hR hr, hn⟩
      have j3 : j < i := beh.resolve_left j1
      rw [if_neg j1] at h0 ⊢
      rw [if_neg (by omega)] at h0 ⊢
      by_cases j4 : j = sp
      · rw [if_pos ⟨j4, by simp⟩]; trivial
      rw [if_neg (fun e => j4 e.1)] at h0 ⊢
      intro k hk
      rw [hf k hk]
      exact hRk j j3 j4 _ _ _ (h0 k hk) hR
    by_cases i2 : i = ss
    · subst i2
      have hd1 : L sa = true := hd sa (by
        have h1 := hdep
        unfold hasDep at h1
        rw [hi] at h1
        exact List.contains_iff_mem.1 h1)
      obtain ⟨o1, ho1⟩ : ∃ o1, ops[sa]? = some o1 := ⟨_, Array.getElem?_eq_getElem hsa⟩
      have hT := hI.j.2 sa o1 ho1 hd1
      unfold vT at hT
      rw [if_pos rfl] at hT
      obtain ⟨b, cs, e, hb, hr, hn⟩ := hT
      have hnd : o.dst = none := by rw [hi] at hn2; exact hn2
      refine wpOp_mono ?_ (store L o a W b cs hi hI hd e hr hn)
      rintro a' W' ⟨rfl, csX, hr', hon, hnX, hEX⟩
      refine ⟨undef, rfl, below_onto hB hon hb, fun j oj hj hlj' => ?_⟩
      have hat : at_ (a.put o.dst undef) = at_ a := by rw [hnd]; rfl
      rw [hat]
      unfold vT
      by_cases hji : j = i
      · rw [hji, if_neg (Ne.symm hne), if_pos rfl]
        exact ⟨b, csX, e, hb, hr', hnX, hEX⟩
      have hlj : L j = true := by simpa [hji] using hlj'
      have h0 := hI.j.2 j oj hj hlj
      unfold vT at h0
      have hsc : (L sc || sc == i) = L sc := by simp [hcs]
      by_cases j1 : j = sa
      · rw [if_pos j1]
        exact ⟨b, csX, e, hb, hr', hnX⟩
      rw [if_neg j1, if_neg hji] at h0 ⊢
      simp only [hsc]
      split at h0
      · rename_i h; rw [if_pos h]; trivial
      · rename_i h
        rw [if_neg h]
        intro k hk
        exact (kinds_keep hl0 j).o _ _ _ _ _ (h0 k hk) hr hon
    · refine wpOp_mono ?_ (step L i o a W i1 i2 i3 hi hI hB hd)
      rintro a' W' ⟨v, rfl, hv, hb⟩
      refine ⟨v, rfl, keepB v W' i2 i3 hb ?_⟩
      unfold vT
      rw [if_neg i1, if_neg i2]
      split
      · trivial
      · intro k hk
        rw [hi] at hk
        have hk' : o.dst = some k := hk
        rw [hk']
        show kinds l i ((a.put (some k) v).tmps.getD k undef) W'
        rw [getD_put_same _ _ _ (by rw [hI.size]; exact dst_lt hds (i := i) (by rw [hi]; exact hk'))]
        exact hv
  · intro a W hI
    obtain ⟨o2, ho2⟩ : ∃ o2, ops[ss]? = some o2 := ⟨_, Array.getElem?_eq_getElem hss⟩
    have hT2 := hI.j.2 ss o2 ho2 rfl
    unfold vT at hT2
    rw [if_neg (Ne.symm hne), if_pos rfl] at hT2
    obtain ⟨b, cs, e, hb, hr, hn, he⟩ := hT2
    exact done a W b cs hI hI.j.1 e hr he hb
end
end Go.Proofs.Ytggfjghcgacdnaa.Reg
