/-
  A drawn region in which one operation gathers what the others have made (an append), and some come behind it.
-/
import Derived.Test.YtggfjghcgacdnaaRegs
namespace Go.Proofs.Ytggfjghcgacdnaa.Reg
open Go.RowKit Base
set_option linter.unusedVariables false
set_option linter.unusedSimpArgs false
set_option maxRecDepth 20000

/-- Each operation fills its own slot. -/
def dstsAre (ops : Array Oper) (ks : List Nat) : Bool := decide ks.Nodup && decide (ks.length = ops.size) && (List.range ops.size).all fun i => (ops[i]?).bind (·.dst) == some (ks.getD i 0)
/-- The operations behind s wait for it; it waits for all others. -/
def gathers (ops : Array Oper) (s : Nat) (af : Nat → Bool) : Bool := (List.range ops.size).all fun i =>
  if af i then (match ops[i]? with | some o => (deps o).contains s | none => true) else (wider ops ops.size [s]).contains i
section
variable {P : Program} {ops : Array Oper} {Q : Exit → Act → World → Prop} {s : Nat} {a0 a : Act} {L : Nat → Bool} {w w' : World} {i : Nat} {o : Oper} {v : Value} {ks : List Nat} {af : Nat → Bool} {Tb : Nat → Value → World → Prop} {Ts : Value → World → Prop}
theorem dst_is (h : dstsAre ops ks = true) (hi : ops[i]? = some o) : o.dst = some (ks.getD i 0) ∧ i < ks.length := by
  simp only [dstsAre, Bool.and_eq_true, decide_eq_true_eq] at h
  have hl : i < ops.size := by
    by_cases hl : i < ops.size
    · exact hl
    · have e : ops[i]? = none := by simp; omega
      rw [e] at hi; cases hi
  have := List.all_eq_true.1 h.2 i (List.mem_range.2 hl)
  rw [hi] at this
  exact ⟨by simpa using this, by rw [h.1.2]; exact hl⟩
theorem ks_ne (h : dstsAre ops ks = true) {i j : Nat} (hi : i < ks.length) (hj : j < ks.length) (hne : i ≠ j) : ks.getD i 0 ≠ ks.getD j 0 := by
  simp only [dstsAre, Bool.and_eq_true, decide_eq_true_eq] at h
  rw [List.getD_eq_getElem?_getD, List.getD_eq_getElem?_getD, List.getElem?_eq_getElem hi, List.getElem?_eq_getElem hj]
  intro e
  exact hne ((List.getElem_inj h.1.1).1 e)
def gT (ks : List Nat) (s : Nat) (af : Nat → Bool) (Tb : Nat → Value → World → Prop) (Ts : Value → World → Prop) (j : Nat) (f : Nat → Value) (W : World) : Prop :=
  if j = s ∨ af j = true then Ts (f (ks.getD j 0)) W else Tb j (f (ks.getD j 0)) W ∨ Ts (f (ks.getD s 0)) W
def gR (ks : List Nat) (s : Nat) (Ts : Value → World → Prop) (i : Nat) (f' : Nat → Value) (W W' : World) : Prop := if i = s then Ts (f' (ks.getD s 0)) W' else Below W.heap.size W W'
theorem mono_g (hk : dstsAre ops ks = true) (hga : gathers ops s af = true) (hs : s < ops.size) (hTb : ∀ j v W W', Tb j v W → Below W.heap.size W W' → Tb j v W') (hTs : ∀ v W W', Ts v W → Below W.heap.size W W' → Ts v W') :
    MonoF ops (gT ks s af Tb Ts) (gR ks s Ts) := by
  intro L i j oi oj f f' W W' hi hj hLi hLj hdep hf hT hR
  have hne : i ≠ j := fun e => by rw [e, hLj] at hLi; cases hLi
  have hi' := dst_is hk hi
  have hj' := dst_is hk hj
  have hs' : s < ks.length := by
    simp only [dstsAre, Bool.and_eq_true, decide_eq_true_eq] at hk
    rw [hk.1.2]; exact hs
  have hjl : j < ops.size := (Array.getElem?_eq_some_iff.1 hj).1
  by_cases his : i = s
  · subst his
    simp only [gR, if_true] at hR
    by_cases hja : af j = true
    · have h1 := List.all_eq_true.1 hga j (List.mem_range.2 hjl)
      rw [if_pos hja, hj] at h1
      have := hdep i (List.contains_iff_mem.1 h1)
      rw [this] at hLi; cases hLi
    · unfold gT
      rw [if_neg (by intro e; rcases e with e | e; exact hne e.symm; exact hja e)]
      exact .inr hR
  · simp only [gR, his, if_false] at hR
    have e1 : f' (ks.getD j 0) = f (ks.getD j 0) := hf _ (by rw [hi'.1]; intro e; exact ks_ne hk hi'.2 hj'.2 hne (Option.some.inj e))
    have e2 : f' (ks.getD s 0) = f (ks.getD s 0) := hf _ (by rw [hi'.1]; intro e; exact ks_ne hk hi'.2 hs' his (Option.some.inj e))
    unfold gT at hT ⊢
    by_cases hq : j = s ∨ af j = true
    · rw [if_pos hq] at hT ⊢
      rw [e1]; exact hTs _ _ _ hT hR
    · rw [if_neg hq] at hT ⊢
      rw [e1, e2]
      rcases hT with h | h
      · exact .inl (hTb _ _ _ _ h hR)
      · exact .inr (hTs _ _ _ h hR)
theorem region_gather {id : Nat} (hm : P.follows .mixedOrders = true) (hac : acyc ops = true) (s : Nat) (hss : s < ops.size) (ks : List Nat) (hk : dstsAre ops ks = true) (af : Nat → Bool) (hga : gathers ops s af = true) (hsz : (ks.all fun k => decide (k < a0.tmps.size)) = true)
    (G E : World → Prop) (Tb : Nat → Value → World → Prop) (Ts : Value → World → Prop) (hTb : ∀ j v W W', Tb j v W → Below W.heap.size W W' → Tb j v W') (hTs : ∀ v W W', Ts v W → Below W.heap.size W W' → Ts v W')
    (hG : G w.drew) (hno : ∀ W, ¬ Ts (a0.tmps.getD (ks.getD s 0) undef) W)
    (step : ∀ (L : Nat → Bool) (i : Nat) (o : Oper) (a : Act) (w : World), i ≠ s → af i = false → ops[i]? = some o → InvS ops s (ge G E) (gT ks s af Tb Ts) a0 L a w → G w → (∀ j, (deps o).contains j = true → Tb j (a.tmps.getD (ks.getD j 0) undef) w) →
      wpOp P ops Q i (fun a' w' => ∃ v, a' = a.put o.dst v ∧ Tb i v w' ∧ G w' ∧ Below w.heap.size w w') a w)
    (gather : ∀ (L : Nat → Bool) (o : Oper) (a : Act) (w : World), ops[s]? = some o → InvS ops s (ge G E) (gT ks s af Tb Ts) a0 L a w → G w → (∀ j, (deps o).contains j = true → Tb j (a.tmps.getD (ks.getD j 0) undef) w) →
      wpOp P ops Q s (fun a' w' => ∃ v, a' = a.put o.dst v ∧ Ts v w' ∧ E w') a w)
    (after : ∀ (L : Nat → Bool) (i : Nat) (o : Oper) (a : Act) (w : World), af i = true → ops[i]? = some o → InvS ops s (ge G E) (gT ks s af Tb Ts) a0 L a w → E w → (∀ j, (deps o).contains j = true → j = s ∨ af j = true → Ts (a.tmps.getD (ks.getD j 0) undef) w) →
      wpOp P ops Q i (fun a' w' => ∃ v, a' = a.put o.dst v ∧ Ts v w' ∧ E w' ∧ Below w.heap.size w w') a w)
    (done : ∀ a w, InvS ops s (ge G E) (gT ks s af Tb Ts) a0 (fun _ => true) a w → E w → (∀ j o, ops[j]? = some o → j = s ∨ af j = true → Ts (a.tmps.getD (ks.getD j 0) undef) w) → Q .normal a w) : (Code.region id ops true).wp P Q a0 w := by
  have hs' : s < ks.length := by
    have hk' := hk
    simp only [dstsAre, Bool.and_eq_true, decide_eq_true_eq] at hk'
    rw [hk'.1.2]; exact hss
  have hafs : af s = false := by
    cases hq : af s with
    | false => rfl
    | true =>
      exfalso
      have h1 := List.all_eq_true.1 hga s (List.mem_range.2 hss)
      rw [if_pos hq, Array.getElem?_eq_getElem hss] at h1
      have h2 := List.all_eq_true.1 hac s (List.mem_range.2 hss)
      rw [Array.getElem?_eq_getElem hss] at h2
      have h3 := List.all_eq_true.1 h2 s (List.contains_iff_mem.1 h1)
      simp at h3
  refine region_genS hm hac s hss (ge G E) (gT ks s af Tb Ts) (gR ks s Ts) (mono_g hk hga hss hTb hTs) (by simpa [ge] using hG) ?_ ?_
  · intro L i o a w hi hI hL hd
    have hi' := dst_is hk hi
    have hil : i < ops.size := (Array.getElem?_eq_some_iff.1 hi).1
    have hput : ∀ v, (a.put o.dst v).tmps.getD (ks.getD i 0) undef = v := fun v => by
      rw [hi'.1]
      refine getD_put_same _ _ _ ?_
      rw [hI.size]
      have := List.all_eq_true.1 hsz (ks.getD i 0) (by rw [List.getD_eq_getElem?_getD, List.getElem?_eq_getElem hi'.2]; exact List.getElem_mem _)
      simpa using this
    have hold : L s = false → a.tmps.getD (ks.getD s 0) undef = a0.tmps.getD (ks.getD s 0) undef := fun hLs => by
      refine hI.rest _ (fun j hLj e => ?_)
      cases hq : ops[j]? with
      | none => simp [hq] at e
      | some oj =>
        have hj' := dst_is hk hq
        rw [hq] at e
        have e' : oj.dst = some (ks.getD s 0) := e
        rw [hj'.1] at e'
        by_cases hjs : j = s
        · rw [hjs, hLs] at hLj; cases hLj
        · exact ks_ne hk hj'.2 hs' hjs (Option.some.inj e')
    have hdeps : L s = false → ∀ j, (deps o).contains j = true → Tb j (a.tmps.getD (ks.getD j 0) undef) w := fun hLs j hj => by
      have hLj := hd j (List.contains_iff_mem.1 hj)
      have hjs : j ≠ s := fun e => by rw [e, hLs] at hLj; cases hLj
      cases hq : ops[j]? with
      | none =>
        exfalso
        have h2 := List.all_eq_true.1 hac i (List.mem_range.2 hil)
        rw [hi] at h2
        have h3 := List.all_eq_true.1 h2 j (List.contains_iff_mem.1 hj)
        simp at h3
        have : j < ops.size := by omega
        simp at hq
        omega
      | some oj =>
        have hja : af j = false := by
          cases ha : af j with
          | false => rfl
          | true =>
            have hjl : j < ops.size := (Array.getElem?_eq_some_iff.1 hq).1
            have h1 := List.all_eq_true.1 hga j (List.mem_range.2 hjl)
            rw [if_pos ha, hq] at h1
            have := hI.closed j oj s hq hLj (List.contains_iff_mem.1 h1)
            rw [hLs] at this; cases this
        have hT := hI.told j oj hq hLj
        unfold gT at hT
        rw [if_neg (by rw [hja]; simp [hjs])] at hT
        rcases hT with h | h
        · exact h
        · exact absurd (by rw [← hold hLs]; exact h) (hno w)
    by_cases his : i = s
    · subst his
      have hg : G w := by have := hI.g; simpa [ge, hL] using this
      refine wpOp_mono ?_ (gather L o a w hi hI hg (hdeps hL))
      rintro a' w' ⟨v, rfl, hv, he⟩
      refine ⟨v, rfl, ?_, by simpa [ge] using he, ?_⟩
      · unfold gT; rw [if_pos (.inl rfl)]; show Ts ((a.put o.dst v).tmps.getD (ks.getD i 0) undef) w'; rw [hput]; exact hv
      · unfold gR; rw [if_pos rfl]; show Ts ((a.put o.dst v).tmps.getD (ks.getD i 0) undef) w'; rw [hput]; exact hv
    · cases ha : af i with
      | false =>
        have hLs : L s = false := by
          cases hq : L s with
          | false => rfl
          | true =>
            have h1 := List.all_eq_true.1 hga i (List.mem_range.2 hil)
            rw [if_neg (by rw [ha]; decide)] at h1
            have := wider_listed (L := L) hI.closed ops.size [s] (fun j hj => by simp at hj; rw [hj]; exact hq) i (List.contains_iff_mem.1 h1)
            rw [this] at hL; cases hL
        have hg : G w := by have := hI.g; simpa [ge, hLs] using this
        refine wpOp_mono ?_ (step L i o a w his ha hi hI hg (hdeps hLs))
        rintro a' w' ⟨v, rfl, hv, he, hb⟩
        refine ⟨v, rfl, ?_, by simpa [ge, hLs, Ne.symm his] using he, ?_⟩
        · unfold gT; rw [if_neg (by rw [ha]; simp [his])]; left; show Tb i ((a.put o.dst v).tmps.getD (ks.getD i 0) undef) w'; rw [hput]; exact hv
        · unfold gR; rw [if_neg his]; exact hb
      | true =>
        have h1 := List.all_eq_true.1 hga i (List.mem_range.2 hil)
        rw [if_pos ha, hi] at h1
        have hLs : L s = true := hd s (List.contains_iff_mem.1 h1)
        have hE : E w := by have := hI.g; simpa [ge, hLs] using this
        refine wpOp_mono ?_ (after L i o a w ha hi hI hE (fun j hj hq => ?_))
        · rintro a' w' ⟨v, rfl, hv, he, hb⟩
          refine ⟨v, rfl, ?_, by simpa [ge, hLs] using he, ?_⟩
          · unfold gT; rw [if_pos (.inr ha)]; show Ts ((a.put o.dst v).tmps.getD (ks.getD i 0) undef) w'; rw [hput]; exact hv
          · unfold gR; rw [if_neg his]; exact hb
        · have hLj := hd j (List.contains_iff_mem.1 hj)
          cases hoj : ops[j]? with
          | none =>
            exfalso
            have h2 := List.all_eq_true.1 hac i (List.mem_range.2 hil)
            rw [hi] at h2
            have h3 := List.all_eq_true.1 h2 j (List.contains_iff_mem.1 hj)
            simp at h3
            simp at hoj
            omega
          | some oj =>
            have hT := hI.told j oj hoj hLj
            unfold gT at hT
            rw [if_pos hq] at hT
            exact hT
  · intro a w hI
    refine done a w hI (by simpa [ge] using hI.g) (fun j o hj hq => ?_)
    have hT := hI.told j o hj rfl
    unfold gT at hT
    rw [if_pos hq] at hT
    exact hT
end
end Go.Proofs.Ytggfjghcgacdnaa.Reg
