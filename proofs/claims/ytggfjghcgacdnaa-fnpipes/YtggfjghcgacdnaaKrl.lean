/-
  A drawn region whose operations make new memory and read, each yielding a value of a known kind, and one of which lays what they made into a block that stood before.
-/
import Derived.Test.YtggfjghcgacdnaaTrn
namespace Go.Proofs.Ytggfjghcgacdnaa.Reg
open Go.RowKit Base Rw
set_option linter.unusedVariables false
set_option linter.unusedSimpArgs false
set_option maxRecDepth 20000

def kJ (ops : Array Oper) (s : Nat) (G E : World → Prop) (kinds : Nat → Value → World → Prop) (L : Nat → Bool) (f : Nat → Value) (W : World) : Prop :=
  (L s = false → G W) ∧ (L s = true → E W) ∧ ∀ j k, L j = true → j ≠ s → (ops[j]?).bind (·.dst) = some k → kinds j (f k) W
section
variable {P : Program} {ops : Array Oper} {Q : Exit → Act → World → Prop} {a0 a : Act} {L : Nat → Bool} {w w' : World} {i s g : Nat} {o : Oper} {v : Value} {G E : World → Prop} {kinds : Nat → Value → World → Prop}
theorem bind_lt {j k : Nat} (h : (ops[j]?).bind (·.dst) = some k) : j < ops.size := by
  by_cases hl : j < ops.size
  · exact hl
  · have e : ops[j]? = none := by simp; omega
    simp [e] at h
theorem kJ_next (hds : dstOk ops a0.tmps.size = true) (hsz : a.tmps.size = a0.tmps.size) (ho : ops[i]? = some o) (hLi : L i = false) (hold : ∀ j k, L j = true → j ≠ s → (ops[j]?).bind (·.dst) = some k → kinds j (at_ a k) w) (hst : ∀ j v, j ≠ s → kinds j v w → kinds j v w')
    (hn : i ≠ s → kinds i v w') : ∀ j k, (L j || j == i) = true → j ≠ s → (ops[j]?).bind (·.dst) = some k → kinds j (at_ (a.put o.dst v) k) w' := by
  intro j k hj hjs hk
  by_cases e : j = i
  · subst e
    have hk' : o.dst = some k := by rw [ho] at hk; exact hk
    show kinds j ((a.put o.dst v).tmps.getD k undef) w'
    rw [hk', getD_put_same _ _ _ (by rw [hsz]; exact dst_lt hds hk)]
    exact hn hjs
  · have hLj : L j = true := by simpa [e] using hj
    have hne : o.dst ≠ some k := fun e' => e (dst_one hds hk (by rw [ho]; exact e'))
    show kinds j ((a.put o.dst v).tmps.getD k undef) w'
    rw [getD_put _ _ _ _ hne]
    exact hst j _ hjs (hold j k hLj hjs hk)
theorem region_kl {id : Nat} (hm : P.follows .mixedOrders = true) (hac : acyc ops = true) (hds : dstOk ops a0.tmps.size = true) (s g : Nat) (hs : s < ops.size) (G E : World → Prop) (kinds : Nat → Value → World → Prop)
    (hG : ∀ W W', G W → Below W.heap.size W W' → G W') (hE : ∀ W W', E W → Below W.heap.size W W' → E W') (hK : ∀ j v W W', kinds j v W → Below W.heap.size W W' → kinds j v W') (hKs : ∀ j v W W', kinds j v W → Onto g W W' → kinds j v W') (h0 : G w.drew)
    (step : ∀ (L : Nat → Bool) (i : Nat) (o : Oper) (a : Act) (w : World), i ≠ s → ops[i]? = some o → InvL ops (kJ ops s G E kinds) a0 L a w → ((wider ops ops.size [s]).contains i = true → G w) → (∀ d ∈ deps o, L d = true) →
      wpOp P ops Q i (fun a' w' => ∃ v, a' = a.put o.dst v ∧ kinds i v w' ∧ Below w.heap.size w w') a w)
    (last : ∀ (L : Nat → Bool) (o : Oper) (a : Act) (w : World), ops[s]? = some o → InvL ops (kJ ops s G E kinds) a0 L a w → G w → (∀ d ∈ deps o, L d = true) →
      wpOp P ops Q s (fun a' w' => ∃ v, a' = a.put o.dst v ∧ E w' ∧ Onto g w w') a w)
    (done : ∀ a w, InvL ops (kJ ops s G E kinds) a0 (fun _ => true) a w → E w → Q .normal a w) : (Code.region id ops true).wp P Q a0 w := by
  refine region_J hm hac (kJ ops s G E kinds) (fun L L' f W hL h => ?_) ⟨fun _ => h0, fun h => by simp at h, fun j k h => by simp at h⟩ (fun L i o a w ho hI hLi hr => ?_) (fun a w hI => done a w hI (hI.j.2.1 rfl))
  · refine ⟨fun h' => h.1 (by rw [hL s hs]; exact h'), fun h' => h.2.1 (by rw [hL s hs]; exact h'), fun j k hj hjs hk => h.2.2 j k (by rw [hL j (bind_lt hk)]; exact hj) hjs hk⟩
  · by_cases e : i = s
    · subst e
      refine wpOp_mono ?_ (last L o a w ho hI (hI.j.1 hLi) hr)
      rintro a' w' ⟨v, rfl, he, hon⟩
      exact ⟨v, rfl, fun h => by simp at h, fun _ => he, kJ_next hds hI.size ho hLi hI.j.2.2 (fun j v _ h => hKs j v _ _ h hon) (fun h => absurd rfl h)⟩
    · refine wpOp_mono ?_ (step L i o a w e ho hI (fun hc => hI.j.1 (by
        cases hq : L s with
        | false => rfl
        | true =>
          have := wider_listed (L := L) hI.closed ops.size [s] (fun j hj => by simp at hj; rw [hj]; exact hq) i (List.contains_iff_mem.1 hc)
          rw [this] at hLi; cases hLi)) hr)
      rintro a' w' ⟨v, rfl, hk, hb⟩
      have hsi : (s == i) = false := by simpa using fun h : s = i => e h.symm
      refine ⟨v, rfl, fun h => hG _ _ (hI.j.1 (by simpa [hsi] using h)) hb, fun h => hE _ _ (hI.j.2.1 (by simpa [hsi] using h)) hb, kJ_next hds hI.size ho hLi hI.j.2.2 (fun j v _ h => hK j v _ _ h hb) (fun _ => hk)⟩
theorem InvL.kd (h : InvL ops (kJ ops s G E kinds) a0 L a w) (hr : ∀ d ∈ deps o, L d = true) (j k : Nat) {oj : Oper} (hj : ops[j]? = some oj) (hk : oj.dst = some k) (hd : (deps o).contains j = true) (hs : j ≠ s) : kinds j (a.eval (.tmp k)) w :=
  h.j.2.2 j k (hr j (by simpa using hd)) hs (by rw [hj]; exact hk)
theorem InvL.kl (h : InvL ops (kJ ops s G E kinds) a0 (fun _ => true) a w) (j k : Nat) (hj : (ops[j]?).bind (·.dst) = some k) (hs : j ≠ s) : kinds j (a.tmps.getD k undef) w :=
  h.j.2.2 j k rfl hs hj
end
end Go.Proofs.Ytggfjghcgacdnaa.Reg
