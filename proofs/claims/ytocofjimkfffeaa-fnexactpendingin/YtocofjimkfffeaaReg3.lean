/-
  Drawn regions: what is told of an operation speaks of slots that it or what it waits for has filled; and one that makes a map of numbers and lays its entries in any order.
-/
import Derived.Test.YtocofjimkfffeaaReg2
import Derived.Test.YtocofjimkfffeaaMp
import Derived.Test.YtocofjimkfffeaaRow
namespace Go.Proofs.Ytocofjimkfffeaa.Reg
open Go.RowKit Base Mp Rw
set_option linter.unusedVariables false

/-- Each slot that is spoken of is filled by the operation itself, by one for which it waits, or by none. -/
def supOk (ops : Array Oper) (S : List (List Nat)) : Bool := (List.range ops.size).all fun j => (S.getD j []).all fun s => (List.range ops.size).all fun i =>
  (ops[i]?).bind (·.dst) != some s || i == j || (match ops[j]? with | some o => (deps o).contains i | none => true)
section
variable {ops : Array Oper} {T : Nat → (Nat → Value) → World → Prop} {R : Nat → World → World → Prop} {S : List (List Nat)}
theorem mono_sup (hS : supOk ops S = true) (hK : ∀ j f f' w, (∀ s ∈ S.getD j [], f' s = f s) → T j f w → T j f' w) (hR : ∀ i j f w w', i ≠ j → T j f w → R i w w' → T j f w') : Mono ops T R := by
  intro L i j oi oj f f' w w' hi hj hLi hLj hdep hf hT hRi
  have hne : i ≠ j := fun e => by rw [e, hLj] at hLi; cases hLi
  have hil : i < ops.size := by
    by_cases hl : i < ops.size
    · exact hl
    · have e : ops[i]? = none := by simp; omega
      rw [e] at hi; cases hi
  have hjl : j < ops.size := by
    by_cases hl : j < ops.size
    · exact hl
    · have e : ops[j]? = none := by simp; omega
      rw [e] at hj; cases hj
  refine hR i j f' w w' hne (hK j f f' w (fun s hs => hf s fun e => ?_) hT) hRi
  have h1 := List.all_eq_true.1 (List.all_eq_true.1 (List.all_eq_true.1 hS j (List.mem_range.2 hjl)) s hs) i (List.mem_range.2 hil)
  rw [hi, hj] at h1
  simp only [Option.bind_some, e, bne_self_eq_false, Bool.false_or, Bool.or_eq_true, beq_iff_eq] at h1
  rcases h1 with h1 | h1
  · exact hne h1
  · have := hdep i (List.contains_iff_mem.1 h1)
    rw [hLi] at this; cases this
end

/-- A map of the call's own, its keys from 240 to 248, each once. -/
structure Nice (L : List (Int × Int)) : Prop where
  one : (L.map Prod.fst).Nodup
  range : ∀ x v, mget L x = some v → 240 ≤ x ∧ x ≤ 248
theorem mput_keys : ∀ (L : List (Int × Int)) (q n x : Int), x ∈ (mput L q n).map Prod.fst ↔ x = q ∨ x ∈ L.map Prod.fst
  | [], q, n, x => by simp [mput]
  | (k, v) :: r, q, n, x => by
    by_cases h : q = k
    · subst h; simp [mput]
    · simp only [mput, h, if_false, List.map_cons, List.mem_cons, mput_keys r q n x]
      constructor
      · rintro (h | h | h) <;> simp [h]
      · rintro (h | h | h) <;> simp [h]
theorem mput_one : ∀ (L : List (Int × Int)) (q n : Int), (L.map Prod.fst).Nodup → ((mput L q n).map Prod.fst).Nodup
  | [], q, n, _ => by simp [mput]
  | (k, v) :: r, q, n, h => by
    by_cases hq : q = k
    · subst hq; simpa [mput] using h
    · simp only [List.map_cons, List.nodup_cons] at h
      simp only [mput, hq, if_false, List.map_cons, List.nodup_cons]
      refine ⟨fun hm => ?_, mput_one r q n h.2⟩
      rcases (mput_keys r q n k).1 hm with e | e
      · exact hq e.symm
      · exact h.1 e
theorem mget_none : ∀ (L : List (Int × Int)) (x : Int), x ∉ L.map Prod.fst → mget L x = none
  | [], x, _ => rfl
  | (k, v) :: r, x, h => by
    simp only [List.map_cons, List.mem_cons, not_or] at h
    simp [mget, h.1, mget_none r x h.2]
theorem mget_mdel : ∀ (L : List (Int × Int)) (q x : Int), (L.map Prod.fst).Nodup → mget (mdel L q) x = if x = q then none else mget L x
  | [], q, x, _ => by simp [mdel, mget]
  | (k, v) :: r, q, x, h => by
    simp only [List.map_cons, List.nodup_cons] at h
    by_cases hq : q = k
    · subst hq
      by_cases hx : x = q
      · subst hx; simp [mdel, mget_none r x h.1]
      · simp [mdel, mget, hx]
    · by_cases hx : x = k
      · subst hx
        have : ¬ x = q := fun e => hq e.symm
        simp [mdel, mget, hq, this]
      · simp [mdel, mget, hq, hx, mget_mdel r q x h.2]
theorem Nice.nil : Nice [] := ⟨by simp, fun x v h => by simp [mget] at h⟩
theorem Nice.put {L : List (Int × Int)} (h : Nice L) {q : Int} (n : Int) (hq : 240 ≤ q ∧ q ≤ 248) : Nice (mput L q n) :=
  ⟨mput_one L q n h.one, fun x v hx => by
    rw [mget_mput] at hx
    split at hx
    · omega
    · exact h.range x v hx⟩
theorem ents_one : ∀ (L L' : List (Int × Int)), L.map (fun x => (Value.int .i64 x.1, Value.int .i64 x.2)) = L'.map (fun x => (Value.int .i64 x.1, Value.int .i64 x.2)) → L = L'
  | [], [], _ => rfl
  | [], _ :: _, h => by simp at h
  | _ :: _, [], h => by simp at h
  | (a, b) :: L, (a', b') :: L', h => by
    simp only [List.map_cons, List.cons.injEq, Prod.mk.injEq, Value.int.injEq, true_and] at h
    obtain ⟨⟨rfl, rfl⟩, h⟩ := h
    rw [ents_one L L' h]
theorem mapAt_one {w : World} {b : Nat} {L L' : List (Int × Int)} (h : MapAt w b L) (h' : MapAt w b L') : L = L' := by
  obtain ⟨es, c, h1, h2⟩ := h
  obtain ⟨es', c', h1', h2'⟩ := h'
  rw [h1] at h1'
  simp only [Option.some.injEq, Obj.map.injEq] at h1'
  obtain ⟨rfl, rfl⟩ := h1'
  exact ents_one _ _ (h2.symm.trans h2')

/-- What is told of an operation of such a region (slot 3 holds the map). -/
abbrev Tk : Type := (Nat × Value) ⊕ Unit ⊕ (Int × Int) ⊕ (Nat × Nat)
def Tk.val (k : Nat) (v : Value) : Tk := .inl (k, v)
def Tk.new : Tk := .inr (.inl ())
def Tk.ins (q x : Int) : Tk := .inr (.inr (.inl (q, x)))
def Tk.same (k k' : Nat) : Tk := .inr (.inr (.inr (k, k')))
def Tk.says (g : Nat) (f : Nat → Value) (w : World) : Tk → Prop
  | .inl (k, v) => f k = v
  | .inr (.inl _) => ∃ b L, f 3 = .map (some b) ∧ g < b ∧ MapAt w b L ∧ Nice L
  | .inr (.inr (.inl (q, x))) => ∃ b L, f 3 = .map (some b) ∧ MapAt w b L ∧ Nice L ∧ mget L q = some x
  | .inr (.inr (.inr (k, k'))) => f k = f k'
def Tk.sup : Tk → List Nat
  | .inl (k, _) => [k]
  | .inr (.inl _) => [3]
  | .inr (.inr (.inl _)) => [3]
  | .inr (.inr (.inr (k, k'))) => [k, k']
def Tk.key : Tk → Int
  | .inr (.inr (.inl (q, _))) => q
  | _ => -1
def told (g : Nat) (l : List Tk) (j : Nat) (f : Nat → Value) (w : World) : Prop := match l[j]? with
  | some t => t.says g f w
  | none => True
/-- Behind a step every such map has at most one other entry, that of the key q. -/
def Rq (q : Int) (w w' : World) : Prop := ∀ b L, MapAt w b L → Nice L → ∃ L', MapAt w' b L' ∧ Nice L' ∧ ∀ x, x ≠ q → mget L' x = mget L x
theorem Rq.below {q : Int} {w w' : World} (h : Below w.heap.size w w') : Rq q w w' := fun b L hm hn => ⟨L, hm.below h, hn, fun _ _ => rfl⟩
theorem Rq.refl (q : Int) (w : World) : Rq q w w := fun b L hm hn => ⟨L, hm, hn, fun _ _ => rfl⟩
theorem Rq.put {q n : Int} {w w' : World} {b : Nat} {L : List (Int × Int)} (hm : MapAt w b L) (hm' : MapAt w' b (mput L q n)) (ho : Onto b w w') (hq : 240 ≤ q ∧ q ≤ 248) : Rq q w w' := fun b' L' hb' hn' => by
  by_cases e : b' = b
  · subst e
    obtain rfl := mapAt_one hm hb'
    exact ⟨_, hm', hn'.put n hq, fun x hx => by rw [mget_mput, if_neg hx]⟩
  · exact ⟨L', hb'.onto ho e, hn', fun _ _ => rfl⟩
def apart (l : List Int) : Bool := (List.range l.length).all fun i => (List.range l.length).all fun j => i == j || l.getD j (-1) == -1 || l.getD i (-1) != l.getD j (-1)
theorem told_mono {ops : Array Oper} {g : Nat} {l : List Tk} {ks : List Int} (hks : l.map Tk.key = ks) (hap : apart ks = true) (hS : supOk ops (l.map Tk.sup) = true) (hpos : ∀ q x, Tk.ins q x ∈ l → 240 ≤ q) (hlen : l.length = ops.size) :
    Mono ops (told g l) (fun i => Rq (ks.getD i (-1))) := by
  refine mono_sup hS (fun j f f' w hf hT => ?_) (fun i j f w w' hij hT hR => ?_)
  · unfold told at *
    cases e : l[j]? with
    | none => trivial
    | some t =>
      rw [e] at hT
      have hs : (l.map Tk.sup).getD j [] = t.sup := by simp [e]
      rw [hs] at hf
      rcases t with ⟨k, v⟩ | ⟨⟩ | ⟨q, x⟩ | ⟨k, k'⟩
      · exact (hf k (by simp [Tk.sup])).trans hT
      · obtain ⟨b, L, h1, h2⟩ := hT; exact ⟨b, L, (hf 3 (by simp [Tk.sup])).trans h1, h2⟩
      · obtain ⟨b, L, h1, h2⟩ := hT; exact ⟨b, L, (hf 3 (by simp [Tk.sup])).trans h1, h2⟩
      · exact ((hf k (by simp [Tk.sup])).trans hT).trans (hf k' (by simp [Tk.sup])).symm
  · unfold told at *
    cases e : l[j]? with
    | none => trivial
    | some t =>
      rw [e] at hT
      rcases t with ⟨k, v⟩ | ⟨⟩ | ⟨q, x⟩ | ⟨k, k'⟩
      · exact hT
      · obtain ⟨b, L, h1, h2, h3, h4⟩ := hT
        obtain ⟨L', m', n', _⟩ := hR b L h3 h4
        exact ⟨b, L', h1, h2, m', n'⟩
      · obtain ⟨b, L, h1, h3, h4, h5⟩ := hT
        obtain ⟨L', m', n', hx⟩ := hR b L h3 h4
        refine ⟨b, L', h1, m', n', ?_⟩
        rw [hx q, h5]
        have hj : ks.getD j (-1) = q := by rw [← hks]; simp [e, Tk.key]
        have hjl : j < ks.length := by
          rw [← hks, List.length_map]
          exact (List.getElem?_eq_some_iff.1 e).1
        have hq := hpos q x (List.mem_of_getElem? e)
        by_cases hil : i < ks.length
        · have h1 := List.all_eq_true.1 (List.all_eq_true.1 hap i (List.mem_range.2 hil)) j (List.mem_range.2 hjl)
          simp only [Bool.or_eq_true, beq_iff_eq, bne_iff_ne, hj] at h1
          rcases h1 with (h1 | h1) | h1
          · exact absurd h1 hij
          · omega
          · exact fun e => h1 e.symm
        · have : ks.getD i (-1) = -1 := by simp [List.getD_eq_getElem?_getD, List.getElem?_eq_none (by omega : ks.length ≤ i)]
          rw [this]; omega
      · exact hT
section
variable {P : Program} {Q : Exit → Act → World → Prop} {a : Act} {o : Oper} {w : World} {K : Act → World → Prop}
theorem makeMap_op {t : TypeId} (ho : o.op = .makeMap t none) (h : K (a.put o.dst (.map (some w.heap.size))) (w.alloc (.map #[] 0))) : o.wp P a w K Q := by
  have e : (Instr.makeMap t none).run P w = .ok (.map (some w.heap.size)) (w.alloc (.map #[] 0)) := rfl
  unfold Oper.wp execOp
  simp only [ho, Option.map_none, Sem.run_bind, Result.andThen_ok, e]
  exact h
theorem insert_op {t k e : TypeId} {m kx x : Operand} {b : Nat} {q n : Int} {L : List (Int × Int)} (ho : o.op = .insert t m kx x) (ht : P.underlying t = some (.map k e)) (hk : P.underlying k = some (.int .i64))
    (hm : a.eval m = .map (some b)) (hq : a.eval kx = .int .i64 q) (hx : a.eval x = .int .i64 n) (hM : MapAt w b L)
    (h : ∀ w', MapAt w' b (mput L q n) → Onto b w w' → K (a.put o.dst undef) w') : o.wp P a w K Q := by
  obtain ⟨w', hr, h1, h2, h3⟩ := run_put (P := P) ht hk hM q n
  unfold Oper.wp execOp
  simp only [ho, hm, hq, hx, Sem.run_bind, Result.andThen_ok, hr]
  exact h _ h1 h2
/-- A field's address, of a block. -/
theorem field_op {v : Value} (he : (execOp a.eval o).run P w = .ok (.value v) w) (h : K (a.put o.dst v) w) : o.wp P a w K Q := by
  unfold Oper.wp
  rw [he]
  exact h
end
end Go.Proofs.Ytocofjimkfffeaa.Reg
