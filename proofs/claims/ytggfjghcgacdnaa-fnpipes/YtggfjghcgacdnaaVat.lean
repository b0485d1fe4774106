/-
  A drawn region that makes a variable of its own and fills it, as in 'x, y := f(..)': one block is laid, one store goes into it; of each other operation its kind is told, and it turns nothing old.
-/
import Derived.Test.YtggfjghcgacdnaaTwo
import Derived.Test.YtggfjghcgacdnaaRow
namespace Go.Proofs.Ytggfjghcgacdnaa.Reg
open Go.RowKit Base Rw
set_option linter.unusedVariables false
set_option linter.unusedSimpArgs false
set_option maxRecDepth 20000

/-- What is told stays where nothing old turns, and where a block of the type T does. -/
structure Keeps (T : TypeId) (K : Value → World → Prop) : Prop where
  b : ∀ v W W', K v W → Below W.heap.size W W' → K v W'
  o : ∀ v W W' g cs, K v W → Row W g cs T → Onto g W W' → K v W'
theorem keeps_is (T : TypeId) (v : Value) : Keeps T (KIs v) := ⟨fun _ _ _ h _ => h, fun _ _ _ _ _ h _ _ => h⟩
theorem keeps_any (T : TypeId) : Keeps T KAny := ⟨fun _ _ _ _ _ => trivial, fun _ _ _ _ _ _ _ _ => trivial⟩
theorem kinds_keep {T : TypeId} {l : List (Value → World → Prop)} (h : ∀ K ∈ l, Keeps T K) (j : Nat) : Keeps T (kinds l j) := by
  have key : kinds l j = KAny ∨ ∃ K ∈ l, kinds l j = K := by
    cases e : l[j]? with
    | none => left; funext v w; simp [kinds, List.getD_eq_getElem?_getD, e]
    | some K => right; exact ⟨K, List.mem_of_getElem? e, by funext v w; simp [kinds, List.getD_eq_getElem?_getD, e]⟩
  rcases key with e | ⟨K, hK, e⟩
  · rw [e]; exact keeps_any T
  · rw [e]; exact h K hK
def tAt (w0 : World) (T : TypeId) (ka n : Nat) (f : Nat → Value) (W : World) : Prop := ∃ b cs, f ka = .pointer (some ⟨b, 0, none⟩) ∧ w0.heap.size ≤ b ∧ Row W b cs T ∧ cs.size = n
def tIs (w0 : World) (T : TypeId) (ka n : Nat) (E : Array Value → World → Prop) (f : Nat → Value) (W : World) : Prop := ∃ b cs, f ka = .pointer (some ⟨b, 0, none⟩) ∧ w0.heap.size ≤ b ∧ Row W b cs T ∧ cs.size = n ∧ E cs W
def tT (ops : Array Oper) (w0 : World) (T : TypeId) (sa ss ka n : Nat) (E : Array Value → World → Prop) (l : List (Value → World → Prop)) (j : Nat) (f : Nat → Value) (W : World) : Prop :=
  if j = sa then tAt w0 T ka n f W else if j = ss then tIs w0 T ka n E f W else ∀ k, (ops[j]?).bind (·.dst) = some k → kinds l j (f k) W
def tR (w0 : World) (T : TypeId) (ss ka n : Nat) (E : Array Value → World → Prop) (i : Nat) (f : Nat → Value) (W W' : World) : Prop :=
  if i = ss then tIs w0 T ka n E f W' ∧ ∃ g cs, Row W g cs T ∧ Onto g W W' else Below W.heap.size W W'
section
variable {P : Program} {ops : Array Oper} {Q : Exit → Act → World → Prop} {sa ss ka n : Nat} {T : TypeId} {E : Array Value → World → Prop} {a0 a : Act} {L : Nat → Bool} {w w' w0 : World} {i : Nat} {o : Oper} {v : Value} {l : List (Value → World → Prop)}
theorem mono_t {m : Nat} (hds : dstOk ops m = true) (hka : (ops[sa]?).bind (·.dst) = some ka) (hdep : hasDep ops ss sa = true) (hne : sa ≠ ss) (hl : ∀ K ∈ l, Keeps T K) (hE : ∀ cs W W', E cs W → Below W.heap.size W W' → E cs W') : MonoF ops (tT ops w0 T sa ss ka n E l) (tR w0 T ss ka n E) := by
  intro L i j oi oj f f' w w' hi hj hLi hLj hd hf hT hR
  unfold tT at hT ⊢
  unfold tR at hR
  have hk : i ≠ sa → f' ka = f ka := fun i1 => hf ka (fun e => i1 (dst_one hds (by rw [hi]; exact e) hka))
  by_cases j1 : j = sa
  · rw [if_pos j1] at hT ⊢
    have i1 : i ≠ sa := fun e => by rw [e, ← j1, hLj] at hLi; cases hLi
    by_cases i2 : i = ss
    · rw [if_pos i2] at hR
      obtain ⟨⟨b, cs, e, hb, hr, hn, _⟩, _⟩ := hR
      exact ⟨b, cs, e, hb, hr, hn⟩
    · rw [if_neg i2] at hR
      obtain ⟨b, cs, e, hb, hr, hn⟩ := hT
      exact ⟨b, cs, (hk i1).trans e, hb, hr.below hR, hn⟩
  · rw [if_neg j1] at hT ⊢
    by_cases j2 : j = ss
    · rw [if_pos j2] at hT ⊢
      have i1 : i ≠ sa := fun e => by
        have h1 := hdep
        unfold hasDep at h1
        rw [← j2, hj] at h1
        have := hd sa (List.contains_iff_mem.1 h1)
        rw [← e, hLi] at this; cases this
      have i2 : i ≠ ss := fun e => by rw [e, ← j2, hLj] at hLi; cases hLi
      rw [if_neg i2] at hR
      obtain ⟨b, cs, e, hb, hr, hn, he⟩ := hT
      exact ⟨b, cs, (hk i1).trans e, hb, hr.below hR, hn, hE _ _ _ he hR⟩
    · rw [if_neg j2] at hT ⊢
      intro k hk
      have e1 : f' k = f k := hf k (fun e => by
        have : i = j := dst_one hds (by rw [hi]; exact e) hk
        rw [this, hLj] at hLi; cases hLi)
      rw [e1]
      have hK := kinds_keep hl j
      by_cases i2 : i = ss
      · rw [if_pos i2] at hR
        obtain ⟨_, g, cs, hr, ho⟩ := hR
        exact hK.o _ _ _ _ _ (hT k hk) hr ho
      · rw [if_neg i2] at hR
        exact hK.b _ _ _ (hT k hk) hR
theorem InvG.valT {G : World → Prop} (h : InvG ops G (tT ops w0 T sa ss ka n E l) a0 L a w) (hr : ∀ d ∈ deps o, L d = true) (j k : Nat) {oj : Oper} (hj : ops[j]? = some oj) (hk : oj.dst = some k) (hd : (deps o).contains j = true) (h1 : j ≠ sa) (h2 : j ≠ ss) : kinds l j (a.eval (.tmp k)) w := by
  have := h.get hr j hj hd
  unfold tT at this
  rw [if_neg h1, if_neg h2] at this
  exact this k (by rw [hj]; exact hk)
theorem InvG.lastT {G : World → Prop} (h : InvG ops G (tT ops w0 T sa ss ka n E l) a0 (fun _ => true) a w) (j k : Nat) (hj : (ops[j]?).bind (·.dst) = some k) (h1 : j ≠ sa) (h2 : j ≠ ss) : kinds l j (a.tmps.getD k undef) w := by
  cases hq : ops[j]? with
  | none => simp [hq] at hj
  | some oj =>
    have := h.told j oj hq rfl
    unfold tT at this
    rw [if_neg h1, if_neg h2] at this
    exact this k hj
theorem region_vart {id : Nat} (hm : P.follows .mixedOrders = true) (hac : acyc ops = true) (sa ss ka : Nat) (hsa : sa < ops.size) (hss : ss < ops.size) (hka : (ops[sa]?).bind (·.dst) = some ka) (hn2 : (ops[ss]?).bind (·.dst) = none) (hdep : hasDep ops ss sa = true) (hne : sa ≠ ss) (hds : dstOk ops a0.tmps.size = true)
    (T : TypeId) (cs0 : Array Value) (E : Array Value → World → Prop) (hE : ∀ cs W W', E cs W → Below W.heap.size W W' → E cs W') (l : List (Value → World → Prop)) (hl : ∀ K ∈ l, Keeps T K)
    (step : ∀ (L : Nat → Bool) (i : Nat) (o : Oper) (a : Act) (W : World), i ≠ sa → i ≠ ss → ops[i]? = some o → InvG ops (fun W => Below w.heap.size w W) (tT ops w T sa ss ka cs0.size E l) a0 L a W → Below w.heap.size w W → (∀ d ∈ deps o, L d = true) →
      wpOp P ops Q i (fun a' W' => ∃ v, a' = a.put o.dst v ∧ kinds l i v W' ∧ Below W.heap.size W W') a W)
    (alloc : ∀ (o : Oper) (a : Act) (W : World), ops[sa]? = some o → wpOp P ops Q sa (fun a' W' => a' = a.put o.dst (.pointer (some ⟨W.heap.size, 0, none⟩)) ∧ W' = W.alloc (.cells cs0 T)) a W)
    (store : ∀ (L : Nat → Bool) (o : Oper) (a : Act) (W : World) (b : Nat) (cs : Array Value), ops[ss]? = some o → InvG ops (fun W => Below w.heap.size w W) (tT ops w T sa ss ka cs0.size E l) a0 L a W → (∀ d ∈ deps o, L d = true) → a.eval (.tmp ka) = .pointer (some ⟨b, 0, none⟩) → Row W b cs T → cs.size = cs0.size →
      wpOp P ops Q ss (fun a' W' => a' = a.put o.dst undef ∧ ∃ csX, Row W' b csX T ∧ Onto b W W' ∧ csX.size = cs0.size ∧ E csX W') a W)
    (done : ∀ a W b cs, InvG ops (fun W => Below w.heap.size w W) (tT ops w T sa ss ka cs0.size E l) a0 (fun _ => true) a W → Below w.heap.size w W → a.tmps.getD ka undef = .pointer (some ⟨b, 0, none⟩) → Row W b cs T → E cs W → w.heap.size ≤ b → Q .normal a W) : (Code.region id ops true).wp P Q a0 w := by
  refine region_genF hm hac (fun W => Below w.heap.size w W) (tT ops w T sa ss ka cs0.size E l) (tR w T ss ka cs0.size E) (mono_t hds hka hdep hne hl hE) ((Below.refl _ w).drew) ?_ ?_
  · intro L i o a W hi hI hL hd
    have hB : Below w.heap.size w W := hI.g
    by_cases i1 : i = sa
    · subst i1
      have hk' : o.dst = some ka := by rw [hi] at hka; exact hka
      refine wpOp_mono ?_ (alloc o a W hi)
      rintro a' W' ⟨rfl, rfl⟩
      have hb1 : Below W.heap.size W (W.alloc (.cells cs0 T)) := (Below.refl _ _).alloc (Nat.le_refl _) _
      refine ⟨_, rfl, ?_, below_more hB hb1, ?_⟩
      · unfold tT
        rw [if_pos rfl, hk']
        refine ⟨W.heap.size, cs0, ?_, hB.size, Row.new W cs0 T, rfl⟩
        show (a.put (some ka) _).tmps.getD ka undef = _
        rw [getD_put_same _ _ _ (by rw [hI.size]; exact dst_lt hds (i := i) (by rw [hi]; exact hk'))]
      · unfold tR
        rw [if_neg hne]; exact hb1
    · by_cases i2 : i = ss
      · subst i2
        have hd1 : L sa = true := hd sa (by
          have h1 := hdep
          unfold hasDep at h1
          rw [hi] at h1
          exact List.contains_iff_mem.1 h1)
        obtain ⟨o1, ho1⟩ : ∃ o1, ops[sa]? = some o1 := ⟨_, Array.getElem?_eq_getElem hsa⟩
        have hT := hI.told sa o1 ho1 hd1
        unfold tT at hT
        rw [if_pos rfl] at hT
        obtain ⟨b, cs, e, hb, hr, hn⟩ := hT
        have hnd : o.dst = none := by rw [hi] at hn2; exact hn2
        refine wpOp_mono ?_ (store L o a W b cs hi hI hd e hr hn)
        rintro a' W' ⟨rfl, csX, hr', hon, hnX, hEX⟩
        have hv : tIs w T ka cs0.size E (at_ (a.put o.dst undef)) W' := by rw [hnd]; exact ⟨b, csX, e, hb, hr', hnX, hEX⟩
        refine ⟨undef, rfl, ?_, below_onto hB hon hb, ?_⟩
        · unfold tT
          rw [if_neg (Ne.symm hne), if_pos rfl]; exact hv
        · unfold tR
          rw [if_pos rfl]; exact ⟨hv, b, cs, hr, hon⟩
      · refine wpOp_mono ?_ (step L i o a W i1 i2 hi hI hB hd)
        rintro a' W' ⟨v, rfl, hv, hb⟩
        refine ⟨v, rfl, ?_, below_more hB hb, ?_⟩
        · unfold tT
          rw [if_neg i1, if_neg i2]
          intro k hk
          rw [hi] at hk
          have hk' : o.dst = some k := hk
          rw [hk']
          show kinds l i ((a.put (some k) v).tmps.getD k undef) W'
          rw [getD_put_same _ _ _ (by rw [hI.size]; exact dst_lt hds (i := i) (by rw [hi]; exact hk'))]
          exact hv
        · unfold tR
          rw [if_neg i2]; exact hb
  · intro a W hI
    obtain ⟨o2, ho2⟩ : ∃ o2, ops[ss]? = some o2 := ⟨_, Array.getElem?_eq_getElem hss⟩
    have hT2 := hI.told ss o2 ho2 rfl
    unfold tT at hT2
    rw [if_neg (Ne.symm hne), if_pos rfl] at hT2
    obtain ⟨b, cs, e, hb, hr, hn, he⟩ := hT2
    exact done a W b cs hI hI.g e hr he hb
end
end Go.Proofs.Ytggfjghcgacdnaa.Reg
