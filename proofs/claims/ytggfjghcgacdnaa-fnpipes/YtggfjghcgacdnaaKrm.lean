/-
  A drawn region in which several operations write into blocks that stood before: the state speaks of those that have come; what is told of an operation is told of its slot alone, and none of those writes turns it.
-/
import Derived.Test.YtggfjghcgacdnaaKrl
namespace Go.Proofs.Ytggfjghcgacdnaa.Reg
open Go.RowKit Base Rw
set_option linter.unusedVariables false
set_option linter.unusedSimpArgs false
set_option maxRecDepth 20000

def mJ (ops : Array Oper) (S : (Nat → Bool) → World → Prop) (kinds : Nat → Value → World → Prop) (L : Nat → Bool) (f : Nat → Value) (W : World) : Prop :=
  S L W ∧ ∀ j k, L j = true → (ops[j]?).bind (·.dst) = some k → kinds j (f k) W
section
variable {P : Program} {ops : Array Oper} {Q : Exit → Act → World → Prop} {a0 a : Act} {L : Nat → Bool} {w w' : World} {i : Nat} {o : Oper} {v : Value} {S : (Nat → Bool) → World → Prop} {kinds : Nat → Value → World → Prop}
theorem region_km {id : Nat} (hm : P.follows .mixedOrders = true) (hac : acyc ops = true) (hds : dstOk ops a0.tmps.size = true) (S : (Nat → Bool) → World → Prop) (kinds : Nat → Value → World → Prop)
    (hS : ∀ (L L' : Nat → Bool) W, (∀ j, j < ops.size → L j = L' j) → S L W → S L' W) (h0 : S (fun _ => false) w.drew)
    (step : ∀ (L : Nat → Bool) (i : Nat) (o : Oper) (a : Act) (w : World), ops[i]? = some o → InvL ops (mJ ops S kinds) a0 L a w → L i = false → (∀ d ∈ deps o, L d = true) →
      wpOp P ops Q i (fun a' w' => ∃ v, a' = a.put o.dst v ∧ S (fun j => L j || j == i) w' ∧ (∀ j v, kinds j v w → kinds j v w') ∧ (o.dst ≠ none → kinds i v w')) a w)
    (done : ∀ a w, InvL ops (mJ ops S kinds) a0 (fun _ => true) a w → S (fun _ => true) w → Q .normal a w) : (Code.region id ops true).wp P Q a0 w := by
  refine region_J hm hac (mJ ops S kinds) (fun L L' f W hL h => ⟨hS L L' W hL h.1, fun j k hj hk => h.2 j k (by rw [hL j (bind_lt hk)]; exact hj) hk⟩) ⟨h0, fun j k h => by simp at h⟩ (fun L i o a w ho hI hLi hr => ?_) (fun a w hI => done a w hI hI.j.1)
  refine wpOp_mono ?_ (step L i o a w ho hI hLi hr)
  rintro a' w' ⟨v, rfl, hs, hst, hk⟩
  refine ⟨v, rfl, hs, fun j k hj hjk => ?_⟩
  by_cases e : j = i
  · subst e
    have hk' : o.dst = some k := by rw [ho] at hjk; exact hjk
    show kinds j ((a.put o.dst v).tmps.getD k undef) w'
    rw [hk', getD_put_same _ _ _ (by rw [hI.size]; exact dst_lt hds hjk)]
    exact hk (by rw [hk']; simp)
  · have hLj : L j = true := by simpa [e] using hj
    have hne : o.dst ≠ some k := fun e' => e (dst_one hds hjk (by rw [ho]; exact e'))
    show kinds j ((a.put o.dst v).tmps.getD k undef) w'
    rw [getD_put _ _ _ _ hne]
    exact hst j _ (hI.j.2 j k hLj hjk)
theorem InvL.km (h : InvL ops (mJ ops S kinds) a0 L a w) (hr : ∀ d ∈ deps o, L d = true) (j k : Nat) {oj : Oper} (hj : ops[j]? = some oj) (hk : oj.dst = some k) (hd : (deps o).contains j = true) : kinds j (a.eval (.tmp k)) w :=
  h.j.2 j k (hr j (by simpa using hd)) (by rw [hj]; exact hk)
theorem InvL.kml (h : InvL ops (mJ ops S kinds) a0 (fun _ => true) a w) (j k : Nat) (hj : (ops[j]?).bind (·.dst) = some k) : kinds j (a.tmps.getD k undef) w := h.j.2 j k rfl hj
/-- What has come before an operation that waits for it. -/
theorem InvL.came {J : (Nat → Bool) → (Nat → Value) → World → Prop} (h : InvL ops J a0 L a w) (hr : ∀ d ∈ deps o, L d = true) (j : Nat) (hd : (deps o).contains j = true) : L j = true := hr j (by simpa using hd)
/-- What waits for an operation that has not come has not come. -/
theorem InvL.waits {J : (Nat → Bool) → (Nat → Value) → World → Prop} (h : InvL ops J a0 L a w) (hL : L i = false) (j : Nat) {oj : Oper} (hj : ops[j]? = some oj) (hd : (deps oj).contains i = true) : L j = false := by
  cases hq : L j with
  | false => rfl
  | true => rw [h.closed j oj i hj hq (by simpa using hd)] at hL; cases hL
end
end Go.Proofs.Ytggfjghcgacdnaa.Reg
