/-
  A drawn region in which every slot's value is known, and one operation may turn what stands; one in which that operation waits for all others.
-/
import Derived.Test.YtocofjimkfffeaaReg6
namespace Go.Proofs.Ytocofjimkfffeaa.Reg
open Go.RowKit Base
set_option linter.unusedVariables false
set_option linter.unusedSimpArgs false

/-- All that some operations wait for, through others too. -/
def wider (ops : Array Oper) : Nat → List Nat → List Nat
  | 0, l => l
  | n + 1, l => wider ops n ((List.range ops.size).filter fun i => l.contains i || l.any fun j => match ops[j]? with
    | some o => (deps o).contains i
    | none => false)
def waitsAll (ops : Array Oper) (s : Nat) : Bool := (List.range ops.size).all fun i => (wider ops ops.size [s]).contains i
theorem wider_listed {ops : Array Oper} {L : Nat → Bool} (h : ∀ j o d, ops[j]? = some o → L j = true → d ∈ deps o → L d = true) : ∀ (n : Nat) (l : List Nat), (∀ i ∈ l, L i = true) → ∀ i ∈ wider ops n l, L i = true
  | 0, l, hl, i, hi => hl i hi
  | n + 1, l, hl, i, hi => by
    refine wider_listed h n _ (fun j hj => ?_) i hi
    rw [List.mem_filter] at hj
    have h2 := hj.2
    rw [Bool.or_eq_true] at h2
    rcases h2 with h2 | h2
    · exact hl j (List.contains_iff_mem.1 h2)
    · obtain ⟨x, hx, hd⟩ := List.any_eq_true.1 h2
      cases hq : ops[x]? with
      | none => simp [hq] at hd
      | some o =>
        simp only [hq] at hd
        exact h x o j hq (hl x hx) (List.contains_iff_mem.1 hd)
/-- What is told of an operation: its slot holds the value that is known. -/
def knownT (ops : Array Oper) (vals : List Value) (j : Nat) (f : Nat → Value) (W : World) : Prop := ∀ k, (ops[j]?).bind (·.dst) = some k → f k = vals.getD j undef
section
variable {P : Program} {ops : Array Oper} {Q : Exit → Act → World → Prop} {s : Nat} {a0 a : Act} {L : Nat → Bool} {w w' : World} {i : Nat} {o : Oper} {v : Value} {vals : List Value}
theorem mono_known {n : Nat} (hds : dstOk ops n = true) : MonoF ops (knownT ops vals) (fun _ _ _ _ => True) := by
  intro L i j oi oj f f' w w' hi hj hLi hLj _ hf hT _ k hk
  rw [hf k (fun e => ?_)]
  · exact hT k hk
  · have : i = j := dst_one hds (by rw [hi]; exact e) hk
    rw [this, hLj] at hLi; cases hLi
theorem region_known {id : Nat} (hm : P.follows .mixedOrders = true) (hac : acyc ops = true) (s : Nat) (hss : s < ops.size) (hds : dstOk ops a0.tmps.size = true) (G : Bool → World → Prop) (vals : List Value) (hG : G false w.drew)
    (step : ∀ (L : Nat → Bool) (i : Nat) (o : Oper) (a : Act) (w : World), ops[i]? = some o → InvS ops s G (knownT ops vals) a0 L a w → L i = false → (∀ d ∈ deps o, L d = true) →
      wpOp P ops Q i (fun a' w' => ∃ v, a' = a.put o.dst v ∧ v = vals.getD i undef ∧ G (L s || s == i) w') a w)
    (done : ∀ a w, InvS ops s G (knownT ops vals) a0 (fun _ => true) a w → Q .normal a w) : (Code.region id ops true).wp P Q a0 w := by
  refine region_genS hm hac s hss G (knownT ops vals) (fun _ _ _ _ => True) (mono_known hds) hG ?_ done
  intro L i o a w hi hI hL hd
  refine wpOp_mono ?_ (step L i o a w hi hI hL hd)
  rintro a' w' ⟨v, rfl, hv, hg⟩
  refine ⟨v, rfl, fun k hk => ?_, hg, trivial⟩
  rw [hi] at hk
  have hk' : o.dst = some k := hk
  have hlt : k < a0.tmps.size := dst_lt hds (i := i) (by rw [hi]; exact hk')
  rw [hk']
  show (a.put (some k) v).tmps.getD k undef = _
  rw [getD_put_same _ _ _ (by rw [hI.size]; exact hlt)]
  exact hv
theorem InvS.val {G : Bool → World → Prop} (h : InvS ops s G (knownT ops vals) a0 L a w) (hr : ∀ d ∈ deps o, L d = true) (j k : Nat) {oj : Oper} (hj : ops[j]? = some oj) (hk : oj.dst = some k) (hd : (deps o).contains j = true) : a.eval (.tmp k) = vals.getD j undef :=
  (h.get hr j hj hd) k (by rw [hj]; exact hk)
theorem InvS.last {G : Bool → World → Prop} (h : InvS ops s G (knownT ops vals) a0 (fun _ => true) a w) (j k : Nat) (hj : (ops[j]?).bind (·.dst) = some k) : a.tmps.getD k undef = vals.getD j undef := by
  cases hq : ops[j]? with
  | none => simp [hq] at hj
  | some oj => exact (h.told j oj hq rfl) k hj
def ge (G E : World → Prop) (b : Bool) (W : World) : Prop := if b = true then E W else G W
theorem region_last {id : Nat} (hm : P.follows .mixedOrders = true) (hac : acyc ops = true) (s : Nat) (hss : s < ops.size) (hall : waitsAll ops s = true) (hds : dstOk ops a0.tmps.size = true) (G E : World → Prop) (vals : List Value) (hG : G w.drew)
    (step : ∀ (L : Nat → Bool) (i : Nat) (o : Oper) (a : Act) (w : World), i ≠ s → ops[i]? = some o → InvS ops s (ge G E) (knownT ops vals) a0 L a w → G w → (∀ d ∈ deps o, L d = true) →
      wpOp P ops Q i (fun a' w' => ∃ v, a' = a.put o.dst v ∧ v = vals.getD i undef ∧ G w') a w)
    (last : ∀ (L : Nat → Bool) (o : Oper) (a : Act) (w : World), ops[s]? = some o → InvS ops s (ge G E) (knownT ops vals) a0 L a w → G w → (∀ d ∈ deps o, L d = true) →
      wpOp P ops Q s (fun a' w' => ∃ v, a' = a.put o.dst v ∧ v = vals.getD s undef ∧ E w') a w)
    (done : ∀ a w, InvS ops s (ge G E) (knownT ops vals) a0 (fun _ => true) a w → E w → Q .normal a w) : (Code.region id ops true).wp P Q a0 w := by
  refine region_known hm hac s hss hds (ge G E) vals (by simpa [ge] using hG) ?_ (fun a w hI => done a w hI (by simpa [ge] using hI.g))
  intro L i o a w hi hI hL hd
  have hil : i < ops.size := by
    by_cases hl : i < ops.size
    · exact hl
    · have e : ops[i]? = none := by simp; omega
      rw [e] at hi; cases hi
  have hLs : L s = false := by
    cases hq : L s with
    | false => rfl
    | true =>
      have h1 := List.all_eq_true.1 hall i (List.mem_range.2 hil)
      have := wider_listed (L := L) hI.closed ops.size [s] (fun j hj => by simp at hj; rw [hj]; exact hq) i (List.contains_iff_mem.1 h1)
      rw [this] at hL; cases hL
  have hg : G w := by have := hI.g; simpa [ge, hLs] using this
  by_cases e : i = s
  · subst e
    refine wpOp_mono ?_ (last L o a w hi hI hg hd)
    rintro a' w' ⟨v, rfl, hv, he⟩
    exact ⟨v, rfl, hv, by simpa [ge] using he⟩
  · refine wpOp_mono ?_ (step L i o a w e hi hI hg hd)
    rintro a' w' ⟨v, rfl, hv, he⟩
    exact ⟨v, rfl, hv, by simpa [ge, hLs, Ne.symm e] using he⟩
/-- A pointer that is not nil. -/
theorem nil_op {x : Operand} {K : Act → World → Prop} {ad : Addr} (ho : o.op = .nilCheck x) (hx : a.eval x = .pointer (some ad)) (h : K (a.put o.dst (.pointer (some ad))) w) : o.wp P a w K Q := by
  refine val_op ?_ h
  unfold execOp
  simp only [ho, hx]
  simp [go_sem]
end
def putAll (f : Nat → Value) (ks : List Nat) (t : Array Value) : Array Value := ks.foldl (fun t k => t.setIfInBounds k (f k)) t
theorem putAll_size (f : Nat → Value) : ∀ (ks : List Nat) (t : Array Value), (putAll f ks t).size = t.size
  | [], t => rfl
  | k :: ks, t => (putAll_size f ks _).trans (by simp)
theorem putAll_get (f : Nat → Value) : ∀ (ks : List Nat) (t : Array Value) (k : Nat), k < t.size → (putAll f ks t).getD k undef = if k ∈ ks then f k else t.getD k undef
  | [], t, k, _ => by simp [putAll]
  | j :: ks, t, k, hk => by
    have ih := putAll_get f ks (t.setIfInBounds j (f j)) k (by simpa using hk)
    have e : putAll f (j :: ks) t = putAll f ks (t.setIfInBounds j (f j)) := rfl
    rw [e, ih]
    by_cases hm : k ∈ ks
    · simp [hm]
    · by_cases hj : k = j
      · subst hj
        simp [hm, Array.getD_eq_getD_getElem?, hk]
      · have hj' : ¬ j = k := fun e => hj e.symm
        simp [hm, hj, hj', Array.getD_eq_getD_getElem?]
theorem frame_of {A a0 : Act} {ks : List Nat} (hs : A.tmps.size = a0.tmps.size) (hd : A.defers = a0.defers) (hr : ∀ k, k ∉ ks → A.tmps.getD k undef = a0.tmps.getD k undef) : A = ⟨putAll (fun k => A.tmps.getD k undef) ks a0.tmps, a0.defers⟩ := by
  obtain ⟨t, d⟩ := A
  simp only at hs hd hr
  subst hd
  congr 1
  apply Array.ext_getElem?
  intro k
  by_cases hk : k < t.size
  · have h1 := putAll_get (fun k => t.getD k undef) ks a0.tmps k (by omega)
    have h2 : (putAll (fun k => t.getD k undef) ks a0.tmps).getD k undef = t.getD k undef := by
      rw [h1]
      by_cases hm : k ∈ ks
      · simp [hm]
      · rw [if_neg hm]; exact (hr k hm).symm
    have hp : k < (putAll (fun k => t.getD k undef) ks a0.tmps).size := by rw [putAll_size]; omega
    rw [Array.getD_eq_getD_getElem?, Array.getD_eq_getD_getElem?, Array.getElem?_eq_getElem hp, Array.getElem?_eq_getElem hk] at h2
    rw [Array.getElem?_eq_getElem hp, Array.getElem?_eq_getElem hk]
    exact congrArg some h2.symm
  · have e1 : t[k]? = none := by simp; omega
    have e2 : (putAll (fun k => t.getD k undef) ks a0.tmps)[k]? = none := by simp [putAll_size]; omega
    rw [e1, e2]
section
variable {ops : Array Oper} {G : World → Prop} {T : Nat → Value → World → Prop} {T' : Nat → (Nat → Value) → World → Prop} {a0 a : Act} {L : Nat → Bool} {w : World}
/-- All the region's slots. -/
def dsts (ops : Array Oper) (ks : List Nat) : Bool := ops.all fun o => match o.dst with | some k => ks.contains k | none => true
theorem dsts_not {ks : List Nat} (h : dsts ops ks = true) {k : Nat} (hk : k ∉ ks) (j : Nat) : (ops[j]?).bind (·.dst) ≠ some k := fun e => by
  cases hj : ops[j]? with
  | none => simp [hj] at e
  | some o =>
    have h1 := (Array.all_eq_true_iff_forall_mem.1 h) o (Array.mem_of_getElem? hj)
    simp [hj] at e
    rw [e] at h1
    exact hk (by simpa using h1)
theorem Inv.frame (h : Inv ops G T a0 L a w) (ks : List Nat) (hks : dsts ops ks = true) : a = ⟨putAll (fun k => a.tmps.getD k undef) ks a0.tmps, a0.defers⟩ :=
  frame_of h.size h.defers fun k hk => h.rest k fun j _ => dsts_not hks hk j
theorem InvG.frame (h : InvG ops G T' a0 L a w) (ks : List Nat) (hks : dsts ops ks = true) : a = ⟨putAll (fun k => a.tmps.getD k undef) ks a0.tmps, a0.defers⟩ :=
  frame_of h.size h.defers fun k hk => h.rest k fun j _ => dsts_not hks hk j
end
section
variable {ops : Array Oper} {s : Nat} {G : Bool → World → Prop} {T : Nat → (Nat → Value) → World → Prop} {a0 a : Act} {L : Nat → Bool} {w : World}
theorem InvS.frame (h : InvS ops s G T a0 L a w) (ks : List Nat) (hks : dsts ops ks = true) : a = ⟨putAll (fun k => a.tmps.getD k undef) ks a0.tmps, a0.defers⟩ :=
  frame_of h.size h.defers fun k hk => h.rest k fun j _ => dsts_not hks hk j
end
end Go.Proofs.Ytocofjimkfffeaa.Reg
