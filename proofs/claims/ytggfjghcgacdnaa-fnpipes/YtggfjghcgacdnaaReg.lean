/-
  A region whose order of evaluation is drawn, by an invariant: each operation is looked at once, in whatever order the others have come.
-/
import Derived.Test.YtggfjghcgacdnaaBase
import Derived.Test.YtggfjghcgacdnaaRows
import Derived.BigFrame
import Derived.BigCall
import Derived.Great.BuildSlice
import Derived.Laws.Tables
namespace Go.Proofs.Ytggfjghcgacdnaa.Reg
open Go.RowKit Base
set_option linter.unusedVariables false
set_option maxRecDepth 20000

/-- What an operation waits for. -/
def deps (o : Oper) : List Nat := (o.after.toList.filter (Region.binds .any)).map (·.on)
def acyc (ops : Array Oper) : Bool := (List.range ops.size).all fun i => match ops[i]? with
  | some o => (deps o).all fun d => decide (d < i)
  | none => true
def dstOk (ops : Array Oper) (n : Nat) : Bool := (List.range ops.size).all fun i => match (ops[i]?).bind (·.dst) with
  | some k => decide (k < n) && (List.range ops.size).all fun j => j == i || (ops[j]?).bind (·.dst) != some k
  | none => true

/-- Some operations have come (L): what they yielded is in its slot, all else is as it was. -/
structure Inv (ops : Array Oper) (G : World → Prop) (T : Nat → Value → World → Prop) (a0 : Act) (L : Nat → Bool) (a : Act) (w : World) : Prop where
  g : G w
  defers : a.defers = a0.defers
  size : a.tmps.size = a0.tmps.size
  slot : ∀ j k, (ops[j]?).bind (·.dst) = some k → L j = true → T j (a.tmps.getD k undef) w
  eff : ∀ j o, ops[j]? = some o → o.dst = none → L j = true → ∃ v, T j v w
  rest : ∀ k, (∀ j, L j = true → (ops[j]?).bind (·.dst) ≠ some k) → a.tmps.getD k undef = a0.tmps.getD k undef
  closed : ∀ j o d, ops[j]? = some o → L j = true → d ∈ deps o → L d = true

section
variable {P : Program} {ops : Array Oper} {Q : Exit → Act → World → Prop} {G : World → Prop} {T : Nat → Value → World → Prop} {R : Nat → World → World → Prop} {a0 a : Act} {L : Nat → Bool} {w w' : World} {i : Nat} {o : Oper} {v : Value}

theorem getD_put (a : Act) (d : Option Tmp) (v : Value) (k : Nat) (h : d ≠ some k) : (a.put d v).tmps.getD k undef = a.tmps.getD k undef := by
  cases d with
  | none => rfl
  | some d =>
    have hd : d ≠ k := fun e => h (by rw [e])
    show (a.tmps.setIfInBounds d v).getD k undef = _
    simp [Array.getD_eq_getD_getElem?, hd]
theorem getD_put_same (a : Act) (k : Nat) (v : Value) (hk : k < a.tmps.size) : (a.put (some k) v).tmps.getD k undef = v := by
  show (a.tmps.setIfInBounds k v).getD k undef = _
  simp [Array.getD_eq_getD_getElem?, hk]
theorem put_size (a : Act) (d : Option Tmp) (v : Value) : (a.put d v).tmps.size = a.tmps.size := by
  cases d with
  | none => rfl
  | some d => simp [Act.put]
theorem put_defers (a : Act) (d : Option Tmp) (v : Value) : (a.put d v).defers = a.defers := by
  cases d <;> rfl
theorem dst_one {n : Nat} (h : dstOk ops n = true) {i j k : Nat} (hi : (ops[i]?).bind (·.dst) = some k) (hj : (ops[j]?).bind (·.dst) = some k) : i = j := by
  have hlt : ∀ {x : Nat}, (ops[x]?).bind (·.dst) = some k → x < ops.size := fun {x} hx => by
    by_cases hl : x < ops.size
    · exact hl
    · have e : ops[x]? = none := by simp; omega
      simp [e] at hx
  have h1 := List.all_eq_true.1 h i (List.mem_range.2 (hlt hi))
  simp only [hi, Bool.and_eq_true] at h1
  have h2 := List.all_eq_true.1 h1.2 j (List.mem_range.2 (hlt hj))
  simp only [hj, bne_self_eq_false, Bool.or_false, beq_iff_eq] at h2
  exact h2.symm
theorem dst_lt {n : Nat} (h : dstOk ops n = true) {i k : Nat} (hi : (ops[i]?).bind (·.dst) = some k) : k < n := by
  have hlt : i < ops.size := by
    by_cases hl : i < ops.size
    · exact hl
    · have e : ops[i]? = none := by simp; omega
      simp [e] at hi
  have h1 := List.all_eq_true.1 h i (List.mem_range.2 hlt)
  simp only [hi, Bool.and_eq_true, decide_eq_true_eq] at h1
  exact h1.1
/-- One more has come. -/
theorem Inv.next (h : Inv ops G T a0 L a w) (hd : dstOk ops a0.tmps.size = true) (mono : ∀ i j v w w', j ≠ i → T j v w → R i w w' → T j v w') (ho : ops[i]? = some o)
    (hr : ∀ d ∈ deps o, L d = true) (hT : T i v w') (hG : G w') (hR : R i w w') : Inv ops G T a0 (fun j => L j || j == i) (a.put o.dst v) w' where
  g := hG
  defers := (put_defers _ _ _).trans h.defers
  size := (put_size _ _ _).trans h.size
  slot := fun j k hk hl => by
    by_cases hj : j = i
    · subst hj
      rw [ho] at hk
      have hk' : o.dst = some k := hk
      rw [hk', getD_put_same _ _ _ (by rw [h.size]; exact dst_lt hd (i := j) (by rw [ho]; exact hk'))]
      exact hT
    · have hl' : L j = true := by simpa [hj] using hl
      have hne : o.dst ≠ some k := fun e => hj (dst_one hd hk (by rw [ho]; exact e))
      rw [getD_put _ _ _ _ hne]
      exact mono _ _ _ _ _ hj (h.slot j k hk hl') hR
  eff := fun j o' hj' hn hl => by
    by_cases hj : j = i
    · subst hj
      exact ⟨v, hT⟩
    · have hl' : L j = true := by simpa [hj] using hl
      obtain ⟨v', hv⟩ := h.eff j o' hj' hn hl'
      exact ⟨v', mono _ _ _ _ _ hj hv hR⟩
  rest := fun k hk => by
    have hne : o.dst ≠ some k := fun e => hk i (by simp) (by rw [ho]; exact e)
    rw [getD_put _ _ _ _ hne]
    exact h.rest k (fun j hj => hk j (by simp [hj]))
  closed := fun j o' d hj hl hd' => by
    by_cases e : j = i
    · subst e
      rw [ho] at hj; cases hj
      simp [hr d hd']
    · have hl' : L j = true := by simpa [e] using hl
      simp [h.closed j o' d hj hl' hd']

theorem countP_lt {l : List Nat} {p q : Nat → Bool} (h : ∀ x, p x = true → q x = true) {x : Nat} (hx : x ∈ l) (hq : q x = true) (hp : p x = false) : l.countP p < l.countP q := by
  induction l with
  | nil => simp at hx
  | cons y l ih =>
    have hle : l.countP p ≤ l.countP q := List.countP_mono_left (fun x _ => h x)
    rcases List.mem_cons.1 hx with rfl | hx
    · simp only [List.countP_cons, hq, hp, if_true]
      simp; omega
    · have := ih hx
      simp only [List.countP_cons]
      have hy : (if p y = true then 1 else 0) ≤ (if q y = true then 1 else 0) := by
        split
        · rename_i hy; rw [if_pos (h y hy)]; exact Nat.le_refl _
        · split <;> omega
      omega
def left (n : Nat) (listed : Array Bool) : Nat := (List.range n).countP fun i => !listed.getD i true
theorem mem_ready {listed : Array Bool} : i ∈ Region.ready .any ops listed ↔ i < ops.size ∧ listed.getD i true = false ∧ ∃ o, ops[i]? = some o ∧ ∀ d ∈ deps o, listed.getD d false = true := by
  simp only [Region.ready, List.mem_filter, List.mem_range, Bool.and_eq_true, Bool.not_eq_true']
  constructor
  · rintro ⟨h1, h2, h3⟩
    refine ⟨h1, h2, ?_⟩
    cases ho : ops[i]? with
    | none => simp [ho] at h3
    | some o =>
      refine ⟨o, rfl, fun d hd => ?_⟩
      simp only [ho, Option.map_some, Option.getD_some, Array.all_eq_true_iff_forall_mem, Bool.or_eq_true, Bool.not_eq_true'] at h3
      simp only [deps, List.mem_map, List.mem_filter] at hd
      obtain ⟨e, ⟨he, hb⟩, rfl⟩ := hd
      rcases h3 e (by simpa using he) with h | h
      · rw [hb] at h; cases h
      · exact h
  · rintro ⟨h1, h2, o, ho, h3⟩
    refine ⟨h1, h2, ?_⟩
    simp only [ho, Option.map_some, Option.getD_some, Array.all_eq_true_iff_forall_mem, Bool.or_eq_true, Bool.not_eq_true']
    intro e he
    cases hb : Region.binds .any e
    · exact .inl rfl
    · exact .inr (h3 e.on (by simp only [deps, List.mem_map, List.mem_filter]; exact ⟨e, ⟨by simpa using he, hb⟩, rfl⟩))
theorem all_listed (hac : acyc ops = true) {listed : Array Bool} (hr : Region.ready .any ops listed = []) (hs : listed.size = ops.size) : ∀ i, i < ops.size → listed.getD i true = true := by
  intro i
  induction i using Nat.strongRecOn with
  | ind i ih =>
    intro hi
    cases hl : listed.getD i true
    · have ho : ops[i]? = some ops[i] := Array.getElem?_eq_getElem hi
      have hm : i ∈ Region.ready .any ops listed := mem_ready.2 ⟨hi, hl, _, ho, fun d hd => by
        have h1 := List.all_eq_true.1 hac i (List.mem_range.2 hi)
        simp only [ho] at h1
        have h2 := List.all_eq_true.1 h1 d hd
        have hdi : d < i := of_decide_eq_true h2
        have h3 := ih d hdi (by omega)
        have hds : d < listed.size := by omega
        simpa [Array.getD_eq_getD_getElem?, Array.getElem?_eq_getElem hds] using h3⟩
      rw [hr] at hm
      simp at hm
    · rfl
theorem any_inv (hac : acyc ops = true) (hds : dstOk ops a0.tmps.size = true) (mono : ∀ i j v w w', j ≠ i → T j v w → R i w w' → T j v w')
    (step : ∀ (L : Nat → Bool) (i : Nat) (o : Oper) (a : Act) (w : World), ops[i]? = some o → Inv ops G T a0 L a w → L i = false → (∀ d ∈ deps o, L d = true) →
      wpOp P ops Q i (fun a' w' => ∃ v, a' = a.put o.dst v ∧ T i v w' ∧ G w' ∧ R i w w') a w)
    (done : ∀ a w, Inv ops G T a0 (fun _ => true) a w → Q .normal a w) :
    ∀ (fuel : Nat) (listed : Array Bool) (a : Act) (w : World), listed.size = ops.size → left ops.size listed ≤ fuel → Inv ops G T a0 (fun j => listed.getD j false) a w → wpAny P .any ops Q fuel listed a w := by
  have fin : ∀ (listed : Array Bool) (a : Act) (w : World), listed.size = ops.size → Region.ready .any ops listed = [] → Inv ops G T a0 (fun j => listed.getD j false) a w → Q .normal a w := fun listed a w hs hr hI => by
    refine done a w ?_
    have hall := all_listed hac hr hs
    have hL : ∀ j, j < ops.size → listed.getD j false = true := fun j hj => by
      have := hall j hj
      have hjl : j < listed.size := by omega
      simpa [Array.getD_eq_getD_getElem?, Array.getElem?_eq_getElem hjl] using this
    have hlt : ∀ {j k : Nat}, (ops[j]?).bind (·.dst) = some k → j < ops.size := fun {j k} hx => by
      by_cases hl : j < ops.size
      · exact hl
      · have e : ops[j]? = none := by simp; omega
        simp [e] at hx
    exact ⟨hI.g, hI.defers, hI.size, fun j k hk _ => hI.slot j k hk (hL j (hlt hk)), fun j o hj hn _ => hI.eff j o hj hn (hL j (by
      by_cases hl : j < ops.size
      · exact hl
      · have e : ops[j]? = none := by simp; omega
        simp [e] at hj)), fun k hk => hI.rest k (fun j hj => hk j rfl), fun _ _ _ _ _ _ => rfl⟩
  intro fuel
  induction fuel with
  | zero =>
    intro listed a w hs hf hI
    have hr : Region.ready .any ops listed = [] := by
      refine List.eq_nil_iff_forall_not_mem.2 fun i hi => ?_
      obtain ⟨h1, h2, _⟩ := mem_ready.1 hi
      have h0 : left ops.size listed = 0 := by omega
      have := (List.countP_eq_zero.1 h0) i (List.mem_range.2 h1)
      simp [h2] at this
    exact ⟨hr, fin listed a w hs hr hI⟩
  | succ fuel ih =>
    intro listed a w hs hf hI
    refine ⟨fun hr => fin listed a w hs hr hI, fun i hi => ?_⟩
    obtain ⟨h1, h2, o, ho, h3⟩ := mem_ready.1 hi
    have hil : i < listed.size := by omega
    have hLi : listed.getD i false = false := by
      simpa [Array.getD_eq_getD_getElem?, Array.getElem?_eq_getElem hil] using h2
    refine wpOp_mono ?_ (step (fun j => listed.getD j false) i o a w ho hI hLi h3)
    rintro a' w' ⟨v, rfl, hT, hG, hR⟩
    refine ih _ _ _ (by simpa using hs) ?_ ?_
    · have hlt : left ops.size (listed.setIfInBounds i true) < left ops.size listed := by
        refine countP_lt (x := i) (fun x hx => ?_) (List.mem_range.2 h1) (by simp [h2]) ?_
        · by_cases hxi : x = i
          · subst hxi; simp [h2]
          · simpa [Array.getD_eq_getD_getElem?, Array.getElem?_setIfInBounds, Ne.symm hxi] using hx
        · simp [Array.getD_eq_getD_getElem?, hil]
      omega
    · have hI' := hI.next hds mono ho h3 hT hG hR
      have e : (fun j => (listed.setIfInBounds i true).getD j false) = fun j => listed.getD j false || j == i := by
        funext j
        by_cases hj : j = i
        · subst hj; simp [Array.getD_eq_getD_getElem?, hil]
        · simp [Array.getD_eq_getD_getElem?, Ne.symm hj, hj]
      rw [e]
      exact hI'
theorem region_by_each {id : Nat} (hm : P.follows .mixedOrders = true) (hac : acyc ops = true) (G : World → Prop) (T : Nat → Value → World → Prop) (R : Nat → World → World → Prop) (hds : dstOk ops a0.tmps.size = true)
    (mono : ∀ i j v w w', j ≠ i → T j v w → R i w w' → T j v w') (hG : G w.drew)
    (step : ∀ (L : Nat → Bool) (i : Nat) (o : Oper) (a : Act) (w : World), ops[i]? = some o → Inv ops G T a0 L a w → L i = false → (∀ d ∈ deps o, L d = true) →
      wpOp P ops Q i (fun a' w' => ∃ v, a' = a.put o.dst v ∧ T i v w' ∧ G w' ∧ R i w w') a w)
    (done : ∀ a w, Inv ops G T a0 (fun _ => true) a w → Q .normal a w) : (Code.region id ops true).wp P Q a0 w := by
  have no : ∀ j, (Array.replicate ops.size false).getD j false = true → False := fun j hl => by
    by_cases hj : j < ops.size
    · simp [Array.getD_eq_getD_getElem?, hj] at hl
    · simp [Array.getD_eq_getD_getElem?, hj] at hl
  exact wp_region_any hm (any_inv hac hds mono step done ops.size _ a0 w.drew (by simp) (by
    refine Nat.le_trans List.countP_le_length ?_
    simp) ⟨hG, rfl, rfl, fun j k _ hl => (no j hl).elim, fun j o _ _ hl => (no j hl).elim, fun _ _ => rfl, fun j o d _ hl _ => (no j hl).elim⟩)
theorem region_by {id : Nat} (hm : P.follows .mixedOrders = true) (hac : acyc ops = true) (G : World → Prop) (T : Nat → Value → World → Prop) (R : World → World → Prop) (hds : dstOk ops a0.tmps.size = true)
    (mono : ∀ j v w w', T j v w → R w w' → T j v w') (hG : G w.drew)
    (step : ∀ (L : Nat → Bool) (i : Nat) (o : Oper) (a : Act) (w : World), ops[i]? = some o → Inv ops G T a0 L a w → L i = false → (∀ d ∈ deps o, L d = true) →
      wpOp P ops Q i (fun a' w' => ∃ v, a' = a.put o.dst v ∧ T i v w' ∧ G w' ∧ R w w') a w)
    (done : ∀ a w, Inv ops G T a0 (fun _ => true) a w → Q .normal a w) : (Code.region id ops true).wp P Q a0 w :=
  region_by_each hm hac G T (fun _ => R) hds (fun _ j v w w' _ h hr => mono j v w w' h hr) hG step done
/-- What an operation reads: a slot that another one, for which it waits, has filled. -/
theorem Inv.get (h : Inv ops G T a0 L a w) (hr : ∀ d ∈ deps o, L d = true) (j k : Nat) (hj : (ops[j]?).bind (·.dst) = some k) (hd : (deps o).contains j = true) : T j (a.tmps.getD k undef) w :=
  h.slot j k hj (hr j (by simpa using hd))
/-- A slot that nobody fills. -/
theorem Inv.old (h : Inv ops G T a0 L a w) (k : Nat) (hk : (ops.all fun o => o.dst != some k) = true) : a.tmps.getD k undef = a0.tmps.getD k undef :=
  h.rest k fun j _ e => by
    cases hj : ops[j]? with
    | none => simp [hj] at e
    | some o =>
      have h1 := (Array.all_eq_true_iff_forall_mem.1 hk) o (Array.mem_of_getElem? hj)
      simp [hj] at e
      simp [e] at h1
/-- The operation is looked at. -/
theorem at_op {K : Act → World → Prop} (ho : ops[i]? = some o) (hg : o.guard = none) (h : o.wp P a w K Q) : wpOp P ops Q i K a w := by
  unfold wpOp
  rw [ho]
  have hw : Region.wanted o (yielded ops a.tmps) = true := by simp [Region.wanted, hg]
  simp only [hw, if_true]
  exact .inl h
theorem move_op {x : Operand} {K : Act → World → Prop} (ho : o.op = .move x) (h : K (a.put o.dst (a.eval x)) w) : o.wp P a w K Q := by
  unfold Oper.wp execOp; rw [ho]; exact h
theorem assign_op {x : Operand} {K : Act → World → Prop} (ho : o.op = .assign x) (h : K (a.put o.dst (a.eval x)) w) : o.wp P a w K Q := by
  unfold Oper.wp execOp; rw [ho]; exact h
/-- An operation that yields a value and leaves the world. -/
theorem val_op {K : Act → World → Prop} (hr : (execOp a.eval o).run P w = .ok (.value v) w) (h : K (a.put o.dst v) w) : o.wp P a w K Q := by
  unfold Oper.wp; rw [hr]; exact h
/-- A guarded operation whose guard lets it be. -/
theorem at_guard {K : Act → World → Prop} (ho : ops[i]? = some o) {j k : Nat} {want : Bool} (hg : o.guard = some (j, want)) (hj : (ops[j]?).bind (·.dst) = some k) (hk : k < a.tmps.size) (hv : a.tmps.getD k undef = .bool want) (h : o.wp P a w K Q) : wpOp P ops Q i K a w := by
  unfold wpOp
  rw [ho]
  have e : a.tmps[k]? = some (.bool want) := by
    rw [Array.getD_eq_getD_getElem?, Array.getElem?_eq_getElem hk] at hv
    rw [Array.getElem?_eq_getElem hk]
    exact congrArg some hv
  have hy : yielded ops a.tmps j = some want := by
    unfold yielded
    rw [hj]
    simp [e]
  have hw : Region.wanted o (yielded ops a.tmps) = true := by simp [Region.wanted, hg, hy]
  simp only [hw, if_true]
  exact .inl h
theorem pick_op {x y z : Operand} {K : Act → World → Prop} {c : Bool} (ho : o.op = .pick x y z) (hx : a.eval x = .bool c) (h : K (a.put o.dst (if c then a.eval y else a.eval z)) w) : o.wp P a w K Q := by
  unfold Oper.wp execOp
  rw [ho]
  simp only [hx]
  cases c <;> exact h
/-- Two values are reckoned with. -/
theorem bin_op {b : BinOp} {t t2 : TypeId} {x y : Operand} {K : Act → World → Prop} {vx vy : Value} (ho : o.op = .binOp b t x y t2) (hx : a.eval x = vx) (hy : a.eval y = vy)
    (hr : ∀ w, (do eqGuard b t x y vx vy; binOp b t vx vy : Sem Value).run P w = .ok v w) (h : K (a.put o.dst v) w) : o.wp P a w K Q := by
  refine val_op ?_ h
  unfold execOp
  rw [ho]
  simp only [hx, hy]
  have e := hr w
  simp only [Sem.run_bind] at e ⊢
  rw [e]
  rfl
/-- A call of a Go function. -/
theorem call_op {f : FuncId} {fn : Func} {args : List Operand} {tys : Array TypeId} {K : Act → World → Prop} (ho : o.op = .call { callee := .value (.func f), args := args.toArray, argTypes := tys })
    (hf : P.funcs[f]? = some fn) (hn : (fn.name == "runtime.NumGoroutine") = false) (hb : fn.body.isNone = false)
    (h : Calls P f (args.map a.eval).toArray w fun e w' => ∃ v, e = .returned v ∧ K (a.put o.dst v) w') : o.wp P a w K Q := by
  unfold Oper.wp execOp
  rw [ho]
  show o.upon P a K Q ((callFunc f (#[] ++ args.toArray.map a.eval ++ #[])).run P w)
  have e : (callFunc f (#[] ++ args.toArray.map a.eval ++ #[])).run P w = .ok (.enter f (args.map a.eval).toArray) w := by
    have hn' : ¬ fn.name = "runtime.NumGoroutine" := by simpa using hn
    have hb' : ¬ fn.body = none := fun e => by simp [e] at hb
    simp [callFunc, hf, hn', hb']
  rw [e, Oper.upon_enter]
  refine h.mono ?_
  rintro e w' ⟨v, rfl, hk⟩
  exact hk
/-- A slice of numbers, written out. -/
theorem lit_op {t e : TypeId} {n : Nat} {parts : List (Nat × Operand)} {vals : List (Nat × Value)} {cs : Array Value} {K : Act → World → Prop} {zz : Nat} (ho : o.op = .buildSlice t n parts.toArray) (hu : P.underlying t = some (.slice e))
    (hi : (P.info? e).map (fun i => (i.zero, i.size, i.bytes)) = some (some (.int .i64 0), 1, zz)) (hv : parts.map (fun (i, x) => (i, a.eval x)) = vals) (hn : n ≤ 16777216) (h0 : 0 < n)
    (hf : Instr.fill (fun i => some (i * 1, 1)) ((Array.range (n * 1)).map ((Value.int .i64 0).cells[· % (Value.int .i64 0).cells.size]!)) vals = some cs)
    (h : K (a.put o.dst (.slice (some ⟨w.heap.size, 0, none⟩) n n)) (w.alloc (.cells cs e))) : o.wp P a w K Q := by
  cases hq : P.info? e with
  | none => simp [hq] at hi
  | some ie =>
    simp [hq] at hi
    obtain ⟨hz, h1, _⟩ := hi
    refine wp_buildSlice t e n parts.toArray ho cs ie (.int .i64 0) hu hq hz (by rw [h1]; simp; omega) (by rw [h1]; simp; omega) ?_ h
    rw [h1, ← hf, ← hv]
    simp
/-- A struct, written out. -/
theorem build_op {t : TypeId} {parts : List (Nat × Operand)} {vals : List (Nat × Value)} {cs : Array Value} {K : Act → World → Prop} (ho : o.op = .build t parts.toArray) (hv : parts.map (fun (i, x) => (i, a.eval x)) = vals)
    (hb : P.built t vals = some cs) (h : K (a.put o.dst (.agg cs)) w) : o.wp P a w K Q := by
  have e : (parts.toArray.map fun (i, x) => (i, a.eval x)).toList = vals := by rw [← hv]; simp
  refine wp_build t parts.toArray ho (by rw [e, hb]; rfl) ?_
  rw [e, hb]
  exact h
/-- An element's address, of a slice whose elements have one cell. -/
theorem index_op {t e : TypeId} {x y : Operand} {K : Act → World → Prop} {b n c r : Nat} {k : IntKind} (ho : o.op = .indexAddr t x y) (hu : P.underlying t = some (.slice e)) (hs : (P.info? e).map (·.size) = some 1)
    (hx : a.eval x = .slice (some ⟨b, 0, none⟩) n c) (hy : a.eval y = .int k (r : Int)) (hr : r < n) (h : K (a.put o.dst (.pointer (some ⟨b, r, none⟩))) w) : o.wp P a w K Q := by
  unfold Oper.wp execOp
  have he : P.elem t = e := by simp [Program.elem, hu]
  have hu' : P.underlying t = some (.slice (P.elem t)) := by rw [he]; exact hu
  have hi : (0 : Int) ≤ (r : Int) ∧ (r : Int) < (n : Int) := by omega
  obtain ⟨ie, hie, h1⟩ : ∃ ie, P.info? e = some ie ∧ ie.size = 1 := by
    cases hq : P.info? e with
    | none => simp [hq] at hs
    | some ie => exact ⟨ie, rfl, by simpa [hq] using hs⟩
  have ha : (⟨b, 0, none⟩ : Addr).add r = ⟨b, r, none⟩ := by
    by_cases h0 : r = 0 <;> simp [Addr.add, h0]
  simp only [ho, hx, hy, Sem.run_bind, run_indexAt_slice w t _ _ _ _ _ hu', he, if_pos hi]
  simp only [sizeOf, typeInfo, hie, Sem.run_bind, run_program, Result.andThen_ok, Sem.run_pure, h1, Int.toNat_natCast, Nat.mul_one, ha]
  exact h
/-- A number is read. -/
theorem load_op {ty : TypeId} {x : Operand} {K : Act → World → Prop} {ad : Addr} {kd : IntKind} (ho : o.op = .load ty x) (hu : P.underlying ty = some (.int kd)) (hx : a.eval x = .pointer (some ad)) (hc : w.cell? ad = some v)
    (h : K (a.put o.dst v) w) : o.wp P a w K Q := by
  unfold Oper.wp execOp
  have e : (loadVar ty ad).run P w = .ok v w := by simp [loadVar, isAgg, run_underlying hu, run_load, hc]
  simp only [ho, hx, Instr.loadAt, Instr.sureAddr, Sem.run_bind, Sem.run_pure, Result.andThen_ok, e]
  exact h
end

theorem add64 (i j : Int) (x y : Operand) (w : World) (h0 : -9223372036854775808 ≤ i + j) (h1 : i + j ≤ 9223372036854775807) : (do eqGuard .add 2 x y (.int .i64 i) (.int .i64 j); binOp .add 2 (.int .i64 i) (.int .i64 j) : Sem Value).run Try.prog w = .ok (.int .i64 (i + j)) w := by
  have e : IntKind.i64.wrap (i + j) = i + j := by
    simp [IntKind.wrap, IntKind.bits, IntKind.signed]
    omega
  have : (do eqGuard .add 2 x y (.int .i64 i) (.int .i64 j); binOp .add 2 (.int .i64 i) (.int .i64 j) : Sem Value).run Try.prog w = .ok (.int .i64 (IntKind.i64.wrap (i + j))) w := by simp [go_sem]
  rw [this, e]
theorem eql64 (i j : Int) (x y : Operand) (w : World) (h : i = j) : (do eqGuard .eql 2 x y (.int .i64 i) (.int .i64 j); binOp .eql 2 (.int .i64 i) (.int .i64 j) : Sem Value).run Try.prog w = .ok (.bool true) w := by
  subst h
  simp [go_sem]
/-- Behind a step: of what was there, the blocks of X alone may have turned. -/
def Rel (X : Nat → Prop) (w w' : World) : Prop := w.heap.size ≤ w'.heap.size ∧ ∀ k, ¬ X k → k < w.heap.size → w'.heap[k]? = w.heap[k]?
theorem Rel.refl (X : Nat → Prop) (w : World) : Rel X w w := ⟨Nat.le_refl _, fun _ _ _ => rfl⟩
theorem Rel.onto {X : Nat → Prop} {p : Nat} {w w' : World} (h : Onto p w w') (hp : X p) : Rel X w w' := ⟨h.size, fun k hk hl => h.block k (fun e => hk (e ▸ hp)) hl⟩
theorem Rel.below {X : Nat → Prop} {w w' : World} (h : Below w.heap.size w w') : Rel X w w' := ⟨h.size, fun k _ hl => h.block k hl⟩
theorem Rel.alloc (X : Nat → Prop) (w : World) (o : Obj) : Rel X w (w.alloc o) := Rel.below ((Below.refl _ _).alloc (Nat.le_refl _) _)

/-! Kinds of what a slot holds. -/
def KIs (x : Value) (v : Value) (w : World) : Prop := v = x
def KInt (v : Value) (w : World) : Prop := ∃ z : Int, v = .int .i64 z
def KBool (v : Value) (w : World) : Prop := ∃ z : Bool, v = .bool z
def KIdx (n : Int) (v : Value) (w : World) : Prop := ∃ r : Nat, v = .int .i64 (r : Int) ∧ (r : Int) < n
def LitAt (X : Nat → Prop) (b n : Nat) (w : World) : Prop := ¬ X b ∧ b < w.heap.size ∧ ∀ o, o < n → ∃ z : Int, w.cell? ⟨b, o, none⟩ = some (.int .i64 z)
def KLit (X : Nat → Prop) (n : Nat) (v : Value) (w : World) : Prop := ∃ b, v = .slice (some ⟨b, 0, none⟩) n n ∧ LitAt X b n w
def KAt (X : Nat → Prop) (n : Nat) (v : Value) (w : World) : Prop := ∃ b r, v = .pointer (some ⟨b, r, none⟩) ∧ r < n ∧ LitAt X b n w
def KAny (v : Value) (w : World) : Prop := True
theorem LitAt.rel {X : Nat → Prop} {b n : Nat} {w w' : World} (h : LitAt X b n w) (hr : Rel X w w') : LitAt X b n w' :=
  ⟨h.1, Nat.lt_of_lt_of_le h.2.1 hr.1, fun o ho => by
    obtain ⟨z, hz⟩ := h.2.2 o ho
    exact ⟨z, by rw [World.cell?_of_block (w := w) (a := ⟨b, o, none⟩) (hr.2 b h.1 h.2.1)]; exact hz⟩⟩
theorem LitAt.new {X : Nat → Prop} {w : World} (hX : ¬ X w.heap.size) (cs : Array Value) (T : TypeId) (hc : ∀ v ∈ cs.toList, ∃ z : Int, v = .int .i64 z) : LitAt X w.heap.size cs.size (w.alloc (.cells cs T)) :=
  ⟨hX, by simp, fun o ho => by
    obtain ⟨z, hz⟩ := hc cs[o] (by simp)
    exact ⟨z, by rw [World.cell?_alloc_new, Array.getElem?_eq_getElem ho, hz]⟩⟩
/-- A kind that bears every step. -/
def Bears (X : Nat → Prop) (K : Value → World → Prop) : Prop := ∀ v w w', K v w → Rel X w w' → K v w'
theorem bears_is (X : Nat → Prop) (x : Value) : Bears X (KIs x) := fun _ _ _ h _ => h
theorem bears_int (X : Nat → Prop) : Bears X KInt := fun _ _ _ h _ => h
theorem bears_bool (X : Nat → Prop) : Bears X KBool := fun _ _ _ h _ => h
theorem bears_idx (X : Nat → Prop) (n : Int) : Bears X (KIdx n) := fun _ _ _ h _ => h
theorem bears_lit (X : Nat → Prop) (n : Nat) : Bears X (KLit X n) := fun _ _ _ ⟨b, e, h⟩ hr => ⟨b, e, h.rel hr⟩
theorem bears_at (X : Nat → Prop) (n : Nat) : Bears X (KAt X n) := fun _ _ _ ⟨b, r, e, hn, h⟩ hr => ⟨b, r, e, hn, h.rel hr⟩
theorem bears_any (X : Nat → Prop) : Bears X KAny := fun _ _ _ _ _ => trivial
/-- The kinds of a region's slots, one after another. -/
def kinds (l : List (Value → World → Prop)) (j : Nat) (v : Value) (w : World) : Prop := (l.getD j KAny) v w
theorem kinds_mono {X : Nat → Prop} {l : List (Value → World → Prop)} (h : ∀ K ∈ l, Bears X K) : ∀ j v w w', kinds l j v w → Rel X w w' → kinds l j v w' := fun j v w w' hk hr => by
  unfold kinds at *
  rw [List.getD_eq_getElem?_getD] at *
  cases e : l[j]? with
  | none => trivial
  | some K =>
    rw [e] at hk
    exact h K (List.mem_of_getElem? e) v w w' hk hr
/-- A block stands so (of an operation that stores). -/
def KRow (b : Nat) (cs : Array Value) (T : TypeId) (v : Value) (w : World) : Prop := w.heap[b]? = some (.cells cs T (0, 0))
theorem bears_row (X : Nat → Prop) (b : Nat) (cs : Array Value) (T : TypeId) (hb : ¬ X b) : Bears X (KRow b cs T) := fun _ w _ h hr => by
  have hl : b < w.heap.size := by
    by_cases hl : b < w.heap.size
    · exact hl
    · have e : w.heap[b]? = none := by simp; omega
      simp [KRow, e] at h
  exact (hr.2 b hb hl).trans h
/-- The one operation number s may turn the blocks of X, the others those of Y. -/
def steps (s : Nat) (X Y : Nat → Prop) (i : Nat) : World → World → Prop := if i = s then Rel X else Rel Y
theorem steps_other {s i : Nat} {X Y : Nat → Prop} {w w' : World} (h : i ≠ s) (hr : Rel Y w w') : steps s X Y i w w' := by unfold steps; rw [if_neg h]; exact hr
theorem steps_same {s : Nat} {X Y : Nat → Prop} {w w' : World} (hr : Rel X w w') : steps s X Y s w w' := by unfold steps; rw [if_pos rfl]; exact hr
theorem kinds_steps {s : Nat} {X Y : Nat → Prop} {l : List (Value → World → Prop)} (hY : ∀ K ∈ l, Bears Y K) (hX : ∀ j K, l[j]? = some K → j ≠ s → Bears X K) :
    ∀ i j v w w', j ≠ i → kinds l j v w → steps s X Y i w w' → kinds l j v w' := fun i j v w w' hji hk hr => by
  unfold kinds at *
  rw [List.getD_eq_getElem?_getD] at *
  cases e : l[j]? with
  | none => trivial
  | some K =>
    rw [e] at hk
    by_cases hi : i = s
    · subst hi
      unfold steps at hr
      rw [if_pos rfl] at hr
      exact hX j K e hji v w w' hk hr
    · unfold steps at hr
      rw [if_neg hi] at hr
      exact hY K (List.mem_of_getElem? e) v w w' hk hr
/-- A frame slot by slot. -/
theorem frame_lit (a : Act) (n : Nat) (h : a.tmps.size = n) : a = ⟨((List.range n).map fun k => a.tmps.getD k undef).toArray, a.defers⟩ := by
  obtain ⟨t, d⟩ := a
  congr 1
  apply Array.ext_getElem?
  intro k
  have h' : t.size = n := h
  by_cases hk : k < n
  · simp [hk, Array.getD_eq_getD_getElem?, Array.getElem?_eq_getElem (by omega : k < t.size)]
  · have e1 : t[k]? = none := by simp; omega
    simp [hk, e1]
end Go.Proofs.Ytggfjghcgacdnaa.Reg
