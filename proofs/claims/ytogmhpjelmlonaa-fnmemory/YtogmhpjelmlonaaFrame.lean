/-
  The frame behind a drawn region: as it was, but for the slots that the region fills.
-/
import Derived.Test.YtogmhpjelmlonaaReg6
namespace Go.Proofs.Ytogmhpjelmlonaa.Reg
open Go.RowKit Base
set_option linter.unusedVariables false
set_option linter.unusedSimpArgs false

def putAll (f : Nat → Value) (ks : List Nat) (t : Array Value) : Array Value := ks.foldl (fun t k => t.setIfInBounds k (f k)) t
theorem putAll_size (f : Nat → Value) : ∀ (ks : List Nat) (t : Array Value), (putAll f ks t).size = t.size
  | [], t => rfl
  | k :: ks, t => (putAll_size f ks _).trans (by simp)
theorem putAll_get (f : Nat → Value) : ∀ (ks : List Nat) (t : Array Value) (k : Nat), k < t.size → (putAll f ks t).getD k undef = if k ∈ ks then f k else t.getD k undef
  | [], t, k, _ => by simp [putAll]
  | j :: ks, t, k, hk => by
    have ih := putAll_get f ks (t.setIfInBounds j (f j)) k (by simpa using hk)
    have e : putAll f (j :: ks) t = putAll f ks (t.setIfInBounds j (f j)) := rfl
    rw [e, ih]
    by_cases hm : k ∈ ks
    · simp [hm]
    · by_cases hj : k = j
      · subst hj
        simp [hm, Array.getD_eq_getD_getElem?, hk]
      · have hj' : ¬ j = k := fun e => hj e.symm
        simp [hm, hj, hj', Array.getD_eq_getD_getElem?]
theorem frame_of {A a0 : Act} {ks : List Nat} (hs : A.tmps.size = a0.tmps.size) (hd : A.defers = a0.defers) (hr : ∀ k, k ∉ ks → A.tmps.getD k undef = a0.tmps.getD k undef) : A = ⟨putAll (fun k => A.tmps.getD k undef) ks a0.tmps, a0.defers⟩ := by
  obtain ⟨t, d⟩ := A
  simp only at hs hd hr
  subst hd
  congr 1
  apply Array.ext_getElem?
  intro k
  by_cases hk : k < t.size
  · have h1 := putAll_get (fun k => t.getD k undef) ks a0.tmps k (by omega)
    have h2 : (putAll (fun k => t.getD k undef) ks a0.tmps).getD k undef = t.getD k undef := by
      rw [h1]
      by_cases hm : k ∈ ks
      · simp [hm]
      · rw [if_neg hm]; exact (hr k hm).symm
    have hp : k < (putAll (fun k => t.getD k undef) ks a0.tmps).size := by rw [putAll_size]; omega
    rw [Array.getD_eq_getD_getElem?, Array.getD_eq_getD_getElem?, Array.getElem?_eq_getElem hp, Array.getElem?_eq_getElem hk] at h2
    rw [Array.getElem?_eq_getElem hp, Array.getElem?_eq_getElem hk]
    exact congrArg some h2.symm
  · have e1 : t[k]? = none := by simp; omega
    have e2 : (putAll (fun k => t.getD k undef) ks a0.tmps)[k]? = none := by simp [putAll_size]; omega
    rw [e1, e2]
section
variable {ops : Array Oper} {G : World → Prop} {T : Nat → Value → World → Prop} {T' : Nat → (Nat → Value) → World → Prop} {a0 a : Act} {L : Nat → Bool} {w : World}
/-- All the region's slots. -/
def dsts (ops : Array Oper) (ks : List Nat) : Bool := ops.all fun o => match o.dst with | some k => ks.contains k | none => true
theorem dsts_not {ks : List Nat} (h : dsts ops ks = true) {k : Nat} (hk : k ∉ ks) (j : Nat) : (ops[j]?).bind (·.dst) ≠ some k := fun e => by
  cases hj : ops[j]? with
  | none => simp [hj] at e
  | some o =>
    have h1 := (Array.all_eq_true_iff_forall_mem.1 h) o (Array.mem_of_getElem? hj)
    simp [hj] at e
    rw [e] at h1
    exact hk (by simpa using h1)
theorem Inv.frame (h : Inv ops G T a0 L a w) (ks : List Nat) (hks : dsts ops ks = true) : a = ⟨putAll (fun k => a.tmps.getD k undef) ks a0.tmps, a0.defers⟩ :=
  frame_of h.size h.defers fun k hk => h.rest k fun j _ => dsts_not hks hk j
theorem InvG.frame (h : InvG ops G T' a0 L a w) (ks : List Nat) (hks : dsts ops ks = true) : a = ⟨putAll (fun k => a.tmps.getD k undef) ks a0.tmps, a0.defers⟩ :=
  frame_of h.size h.defers fun k hk => h.rest k fun j _ => dsts_not hks hk j
end
end Go.Proofs.Ytogmhpjelmlonaa.Reg
