/-
  A drawn region whose last two operations wait for all others: a call that turns what stands, and a store of what it answers.
-/
import Derived.Test.YtggfjghcgacdnaaRegs
namespace Go.Proofs.Ytggfjghcgacdnaa.Reg
open Go.RowKit Base
set_option linter.unusedVariables false
set_option linter.unusedSimpArgs false
set_option maxRecDepth 20000

/-- All but t are waited for. -/
def waitsBut (ops : Array Oper) (s t : Nat) : Bool := (List.range ops.size).all fun i => i == t || (wider ops ops.size [s]).contains i
def hasDep (ops : Array Oper) (j i : Nat) : Bool := match ops[j]? with
  | some o => (deps o).contains i
  | none => false
def twoT (ops : Array Oper) (s1 s2 k1 : Nat) (E1 : Value → World → Prop) (E2 : World → Prop) (vals : List Value) (j : Nat) (f : Nat → Value) (W : World) : Prop :=
  if j = s1 then E1 (f k1) W else if j = s2 then E2 W else knownT ops vals j f W
def twoR (s1 s2 k1 : Nat) (E1 : Value → World → Prop) (i : Nat) (f : Nat → Value) (W W' : World) : Prop :=
  if i = s1 then True else if i = s2 then E1 (f k1) W' else Below W.heap.size W W'
section
variable {P : Program} {ops : Array Oper} {Q : Exit → Act → World → Prop} {s1 s2 k1 : Nat} {a0 a : Act} {L : Nat → Bool} {w w' : World} {i : Nat} {o : Oper} {v : Value} {vals : List Value} {E1 : Value → World → Prop} {E2 : World → Prop}
theorem mono_two {n : Nat} (hds : dstOk ops n = true) (hk1 : (ops[s1]?).bind (·.dst) = some k1) (hdep : hasDep ops s2 s1 = true) (hne : s1 ≠ s2)
    (hE1 : ∀ v W W', E1 v W → Below W.heap.size W W' → E1 v W') (hE2 : ∀ W W', E2 W → Below W.heap.size W W' → E2 W') : MonoF ops (twoT ops s1 s2 k1 E1 E2 vals) (twoR s1 s2 k1 E1) := by
  intro L i j oi oj f f' w w' hi hj hLi hLj hd hf hT hR
  unfold twoT at hT ⊢
  unfold twoR at hR
  by_cases j1 : j = s1
  · rw [if_pos j1] at hT ⊢
    have i1 : i ≠ s1 := fun e => by rw [e, ← j1, hLj] at hLi; cases hLi
    rw [if_neg i1] at hR
    by_cases i2 : i = s2
    · rw [if_pos i2] at hR; exact hR
    · rw [if_neg i2] at hR
      have hk : f' k1 = f k1 := hf k1 (fun e => by
        refine i1 (dst_one hds (by rw [hi]; exact e) hk1))
      rw [hk]; exact hE1 _ _ _ hT hR
  · rw [if_neg j1] at hT ⊢
    by_cases j2 : j = s2
    · rw [if_pos j2] at hT ⊢
      have i1 : i ≠ s1 := fun e => by
        have h1 := hdep
        unfold hasDep at h1
        rw [← j2, hj] at h1
        have := hd s1 (List.contains_iff_mem.1 h1)
        rw [← e, hLi] at this; cases this
      have i2 : i ≠ s2 := fun e => by rw [e, ← j2, hLj] at hLi; cases hLi
      rw [if_neg i1, if_neg i2] at hR
      exact hE2 _ _ hT hR
    · rw [if_neg j2] at hT ⊢
      intro k hk
      rw [hf k (fun e => ?_)]
      · exact hT k hk
      · have : i = j := dst_one hds (by rw [hi]; exact e) hk
        rw [this, hLj] at hLi; cases hLi
theorem InvS.val2 {G : Bool → World → Prop} (h : InvS ops s1 G (twoT ops s1 s2 k1 E1 E2 vals) a0 L a w) (hr : ∀ d ∈ deps o, L d = true) (j k : Nat) {oj : Oper} (hj : ops[j]? = some oj) (hk : oj.dst = some k) (hd : (deps o).contains j = true) (h1 : j ≠ s1) (h2 : j ≠ s2) : a.eval (.tmp k) = vals.getD j undef := by
  have := h.get hr j hj hd
  unfold twoT at this
  rw [if_neg h1, if_neg h2] at this
  exact this k (by rw [hj]; exact hk)
theorem region_two {id : Nat} (hm : P.follows .mixedOrders = true) (hac : acyc ops = true) (s1 s2 k1 : Nat) (hs1 : s1 < ops.size) (hk1 : (ops[s1]?).bind (·.dst) = some k1) (hn2 : (ops[s2]?).bind (·.dst) = none) (hall : waitsBut ops s1 s2 = true) (hdep : hasDep ops s2 s1 = true) (hne : s1 ≠ s2) (hds : dstOk ops a0.tmps.size = true)
    (G : World → Prop) (E1 : Value → World → Prop) (E2 : World → Prop) (hE1 : ∀ v W W', E1 v W → Below W.heap.size W W' → E1 v W') (hE2 : ∀ W W', E2 W → Below W.heap.size W W' → E2 W') (vals : List Value) (hG : G w.drew)
    (step : ∀ (L : Nat → Bool) (i : Nat) (o : Oper) (a : Act) (w : World), i ≠ s1 → i ≠ s2 → ops[i]? = some o → InvS ops s1 (ge G fun _ => True) (twoT ops s1 s2 k1 E1 E2 vals) a0 L a w → G w → (∀ d ∈ deps o, L d = true) →
      wpOp P ops Q i (fun a' w' => ∃ v, a' = a.put o.dst v ∧ v = vals.getD i undef ∧ G w' ∧ Below w.heap.size w w') a w)
    (first : ∀ (L : Nat → Bool) (o : Oper) (a : Act) (w : World), ops[s1]? = some o → InvS ops s1 (ge G fun _ => True) (twoT ops s1 s2 k1 E1 E2 vals) a0 L a w → G w → (∀ d ∈ deps o, L d = true) →
      wpOp P ops Q s1 (fun a' w' => ∃ v, a' = a.put o.dst v ∧ E1 v w') a w)
    (second : ∀ (L : Nat → Bool) (o : Oper) (a : Act) (w : World), ops[s2]? = some o → InvS ops s1 (ge G fun _ => True) (twoT ops s1 s2 k1 E1 E2 vals) a0 L a w → E1 (a.tmps.getD k1 undef) w → (∀ d ∈ deps o, L d = true) →
      wpOp P ops Q s2 (fun a' w' => a' = a.put o.dst undef ∧ E1 (a.tmps.getD k1 undef) w' ∧ E2 w') a w)
    (done : ∀ a w, InvS ops s1 (ge G fun _ => True) (twoT ops s1 s2 k1 E1 E2 vals) a0 (fun _ => true) a w → E1 (a.tmps.getD k1 undef) w → E2 w → Q .normal a w)
    (h2s : s2 < ops.size) : (Code.region id ops true).wp P Q a0 w := by
  refine region_genS hm hac s1 hs1 (ge G fun _ => True) (twoT ops s1 s2 k1 E1 E2 vals) (twoR s1 s2 k1 E1) (mono_two hds hk1 hdep hne hE1 hE2) (by simpa [ge] using hG) ?_ ?_
  · intro L i o a w hi hI hL hd
    have hil : i < ops.size := (Array.getElem?_eq_some_iff.1 hi).1
    by_cases i2 : i = s2
    · subst i2
      have hd1 : L s1 = true := hd s1 (by
        have h1 := hdep
        unfold hasDep at h1
        rw [hi] at h1
        exact List.contains_iff_mem.1 h1)
      obtain ⟨o1, ho1⟩ : ∃ o1, ops[s1]? = some o1 := ⟨_, Array.getElem?_eq_getElem hs1⟩
      have hT := hI.told s1 o1 ho1 hd1
      unfold twoT at hT
      rw [if_pos rfl] at hT
      have hnd : o.dst = none := by rw [hi] at hn2; exact hn2
      refine wpOp_mono ?_ (second L o a w hi hI hT hd)
      rintro a' w' ⟨rfl, he1, he2⟩
      refine ⟨undef, rfl, ?_, by simp [ge, hd1], ?_⟩
      · unfold twoT
        rw [if_neg (Ne.symm hne), if_pos rfl]; exact he2
      · unfold twoR
        rw [if_neg (Ne.symm hne), if_pos rfl, hnd]; exact he1
    · have hLs : L s1 = false := by
        cases hq : L s1 with
        | false => rfl
        | true =>
          have h1 := List.all_eq_true.1 hall i (List.mem_range.2 hil)
          rw [Bool.or_eq_true] at h1
          rcases h1 with h1 | h1
          · exact absurd (by simpa using h1) i2
          · have := wider_listed (L := L) hI.closed ops.size [s1] (fun j hj => by simp at hj; rw [hj]; exact hq) i (List.contains_iff_mem.1 h1)
            rw [this] at hL; cases hL
      have hg : G w := by have := hI.g; simpa [ge, hLs] using this
      by_cases i1 : i = s1
      · subst i1
        refine wpOp_mono ?_ (first L o a w hi hI hg hd)
        rintro a' w' ⟨v, rfl, he⟩
        refine ⟨v, rfl, ?_, by simp [ge], ?_⟩
        · unfold twoT
          rw [if_pos rfl]
          have hk' : o.dst = some k1 := by rw [hi] at hk1; exact hk1
          rw [hk']
          show E1 ((a.put (some k1) v).tmps.getD k1 undef) w'
          rw [getD_put_same _ _ _ (by rw [hI.size]; exact dst_lt hds (i := i) (by rw [hi]; exact hk'))]
          exact he
        · unfold twoR
          rw [if_pos rfl]; trivial
      · refine wpOp_mono ?_ (step L i o a w i1 i2 hi hI hg hd)
        rintro a' w' ⟨v, rfl, hv, he, hb⟩
        refine ⟨v, rfl, ?_, by simpa [ge, hLs, Ne.symm i1] using he, ?_⟩
        · unfold twoT
          rw [if_neg i1, if_neg i2]
          intro k hk
          rw [hi] at hk
          have hk' : o.dst = some k := hk
          rw [hk']
          show (a.put (some k) v).tmps.getD k undef = _
          rw [getD_put_same _ _ _ (by rw [hI.size]; exact dst_lt hds (i := i) (by rw [hi]; exact hk')), hv]
        · unfold twoR
          rw [if_neg i1, if_neg i2]; exact hb
  · intro a w hI
    obtain ⟨o1, ho1⟩ : ∃ o1, ops[s1]? = some o1 := ⟨_, Array.getElem?_eq_getElem hs1⟩
    obtain ⟨o2, ho2⟩ : ∃ o2, ops[s2]? = some o2 := ⟨_, Array.getElem?_eq_getElem h2s⟩
    have hT1 := hI.told s1 o1 ho1 rfl
    have hT2 := hI.told s2 o2 ho2 rfl
    unfold twoT at hT1 hT2
    rw [if_pos rfl] at hT1
    rw [if_neg (Ne.symm hne), if_pos rfl] at hT2
    exact done a w hI hT1 hT2
end
end Go.Proofs.Ytggfjghcgacdnaa.Reg
