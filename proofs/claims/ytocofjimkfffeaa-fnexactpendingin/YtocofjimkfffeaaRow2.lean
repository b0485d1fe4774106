/-
  Parts of a block of a call's own: a field, or a struct within a struct, read and written in its place.
-/
import Derived.Test.YtocofjimkfffeaaRow
import Derived.Deep.MidRow
namespace Go.Proofs.Ytocofjimkfffeaa.Rw
open Go.RowKit Base
set_option linter.unusedVariables false

/-- An array with a list laid over it from a place on. -/
def spl : List Value → Nat → Array Value → Array Value
  | [], _, cs => cs
  | v :: r, k, cs => spl r (k + 1) (cs.setIfInBounds k v)
theorem Row.cells {g : Nat} {T : TypeId} : ∀ (vs : List Value) (k : Nat) (w : World) (cs : Array Value), Row w g cs T → Row (w.setCells g k vs) g (spl vs k cs) T
  | [], _, _, _, h => h
  | v :: r, k, w, cs, h => Row.cells r (k + 1) _ _ (h.set k v)
theorem onto_cells {g : Nat} : ∀ (vs : List Value) (k : Nat) (w0 w : World), Onto g w0 w → Onto g w0 (w.setCells g k vs)
  | [], _, _, _, h => h
  | v :: r, k, w0, w, h => onto_cells r (k + 1) w0 _ (h.setCell rfl v)
theorem size_cells {g : Nat} : ∀ (vs : List Value) (k : Nat) (w : World), (w.setCells g k vs).heap.size = w.heap.size
  | [], _, _ => rfl
  | v :: r, k, w => (size_cells r (k + 1) _).trans (by simp)
theorem Row.there {w : World} {g : Nat} {cs : Array Value} {T : TypeId} (h : Row w g cs T) (k n : Nat) (hk : k + n ≤ cs.size) : w.there g k n := fun j hj => by
  refine ⟨?_, h.free _⟩
  rw [h.cell]
  simp; omega
section
variable {P : Program}
theorem run_store_in (w : World) (g k : Nat) (ty : TypeId) (v : Value) (vs : List Value) (hv : v.cells.toList = vs) (ht : w.there g k vs.length) (hi : (P.info? ty).map (·.size) = some vs.length) (h1 : vs.all (·.oneCell') = true) :
    (storeVar ty ⟨g, k, none⟩ v).run P w = .ok () (w.setCells g k vs) := by
  subst hv
  have := run_storeCells_cells (P := P) g k v.cells.toList 0 w (fun j hj => by simpa using (ht j (by simpa using hj)).1) (fun j hj => by simpa using (ht j (by simpa using hj)).2)
    (fun u hu => (List.all_eq_true.1 h1) u hu)
  cases hq : P.info? ty with
  | none => simp [hq] at hi
  | some i =>
    have hs : v.cells.size = i.size := by simp [hq] at hi; omega
    simp only [Nat.add_zero] at this
    simp [storeVar, sizeOf, typeInfo, hq, hs, this]
/-- A value goes into its place in a block. -/
theorem st_in {ops : Array Oper} {rest : List Oper} {o : Oper} {a : Act} {w : World} {Q : Exit → Act → World → Prop} (hgd : o.guard = none) {ty : TypeId} {x y : Operand} (ho : o.op = .store ty x y)
    {g k : Nat} {v : Value} {vs : List Value} {cs cs' : Array Value} {T : TypeId} (hx : a.eval x = .pointer (some ⟨g, k, none⟩)) (hy : a.eval y = v) (hr : Row w g cs T) (hv : v.cells.toList = vs)
    (hi : (P.info? ty).map (·.size) = some vs.length) (hk : decide (k + vs.length ≤ cs.size) = true) (h1 : vs.all (·.oneCell') = true) (hcs : spl vs k cs = cs')
    (h : ∀ w', Row w' g cs' T → Onto g w w' → w'.heap.size = w.heap.size → wpList P ops Q rest (a.put o.dst undef) w') : wpList P ops Q (o :: rest) a w :=
  wpList_plain hgd fun _ hK => by
    unfold Oper.wp execOp
    simp only [ho, hx, hy, Instr.storeAt, Instr.sureAddr, Sem.run_bind, Sem.run_pure, Result.andThen_ok, run_store_in w g k ty v vs hv (hr.there k vs.length (of_decide_eq_true hk)) hi h1]
    exact hK _ _ (h _ (hcs ▸ hr.cells vs k) (onto_cells vs k _ _ (Onto.refl _ _)) (size_cells _ _ _))
/-- A number goes into its place. -/
theorem st_int {ops : Array Oper} {rest : List Oper} {o : Oper} {a : Act} {w : World} {Q : Exit → Act → World → Prop} (hgd : o.guard = none) {ty : TypeId} {x y : Operand} (ho : o.op = .store ty x y)
    {g k : Nat} {z : Int} {kd : IntKind} {cs : Array Value} {T : TypeId} (hx : a.eval x = .pointer (some ⟨g, k, none⟩)) (hy : a.eval y = .int kd z) (hr : Row w g cs T)
    (hi : (P.info? ty).map (·.size) = some 1) (hk : decide (k < cs.size) = true)
    (h : ∀ w', Row w' g (cs.setIfInBounds k (.int kd z)) T → Onto g w w' → w'.heap.size = w.heap.size → wpList P ops Q rest (a.put o.dst undef) w') : wpList P ops Q (o :: rest) a w :=
  st_in (vs := [.int kd z]) hgd ho hx hy hr rfl hi hk rfl rfl h
/-- A flag goes into its place. -/
theorem st_flag {ops : Array Oper} {rest : List Oper} {o : Oper} {a : Act} {w : World} {Q : Exit → Act → World → Prop} (hgd : o.guard = none) {ty : TypeId} {x y : Operand} (ho : o.op = .store ty x y)
    {g k : Nat} {z : Bool} {cs : Array Value} {T : TypeId} (hx : a.eval x = .pointer (some ⟨g, k, none⟩)) (hy : a.eval y = .bool z) (hr : Row w g cs T)
    (hi : (P.info? ty).map (·.size) = some 1) (hk : decide (k < cs.size) = true)
    (h : ∀ w', Row w' g (cs.setIfInBounds k (.bool z)) T → Onto g w w' → w'.heap.size = w.heap.size → wpList P ops Q rest (a.put o.dst undef) w') : wpList P ops Q (o :: rest) a w :=
  st_in (vs := [.bool z]) hgd ho hx hy hr rfl hi hk rfl rfl h
/-- A struct of two numbers goes into its place. -/
theorem st_two {ops : Array Oper} {rest : List Oper} {o : Oper} {a : Act} {w : World} {Q : Exit → Act → World → Prop} (hgd : o.guard = none) {ty : TypeId} {x y : Operand} (ho : o.op = .store ty x y)
    {g k : Nat} {z z2 : Int} {kd kd2 : IntKind} {cs : Array Value} {T : TypeId} (hx : a.eval x = .pointer (some ⟨g, k, none⟩)) (hy : a.eval y = .agg #[.int kd z, .int kd2 z2]) (hr : Row w g cs T)
    (hi : (P.info? ty).map (·.size) = some 2) (hk : decide (k + 1 < cs.size) = true)
    (h : ∀ w', Row w' g ((cs.setIfInBounds k (.int kd z)).setIfInBounds (k + 1) (.int kd2 z2)) T → Onto g w w' → w'.heap.size = w.heap.size → wpList P ops Q rest (a.put o.dst undef) w') : wpList P ops Q (o :: rest) a w :=
  st_in (vs := [.int kd z, .int kd2 z2]) hgd ho hx hy hr rfl hi hk rfl rfl h
/-- A struct within a block is read. -/
theorem ld_in {ops : Array Oper} {rest : List Oper} {o : Oper} {a : Act} {w : World} {Q : Exit → Act → World → Prop} (hgd : o.guard = none) {ty : TypeId} {x : Operand} (ho : o.op = .load ty x)
    {g k : Nat} {cs cs' : Array Value} {T : TypeId} {d : TypeDesc} (hx : a.eval x = .pointer (some ⟨g, k, none⟩)) (hr : Row w g cs T) (hu : P.underlying ty = some d) (hd : d.isRow = true)
    (hcs : cs.extract k (k + cs'.size) = cs') (hi : (P.info? ty).map (·.size) = some cs'.size)
    (h : wpList P ops Q rest (a.put o.dst (.agg cs')) w) : wpList P ops Q (o :: rest) a w := by
  have hrange : w.rangeAt g k cs'.toList := by
    have := World.rangeAt_of_block hr.row k cs'.size
    rwa [hcs] at this
  refine wpList_load_mid hgd ty x ho g k hx cs'.toList d hrange hu hd (by simpa using hi) ?_
  simpa using h
/-- A struct within a block is read, in a drawn region. -/
theorem lw_in {o : Oper} {a : Act} {w : World} {K : Act → World → Prop} {Q : Exit → Act → World → Prop} {ty : TypeId} {x : Operand} (ho : o.op = .load ty x)
    {g k : Nat} {cs cs' : Array Value} {T : TypeId} {d : TypeDesc} (hx : a.eval x = .pointer (some ⟨g, k, none⟩)) (hr : Row w g cs T) (hu : P.underlying ty = some d) (hd : d.isRow = true)
    (hcs : cs.extract k (k + cs'.size) = cs') (hi : (P.info? ty).map (·.size) = some cs'.size)
    (h : K (a.put o.dst (.agg cs')) w) : o.wp P a w K Q := by
  have hrange : w.rangeAt g k cs'.toList := by
    have := World.rangeAt_of_block hr.row k cs'.size
    rwa [hcs] at this
  refine wp_load_mid ty x ho g k hx cs'.toList d hrange hu hd (by simpa using hi) ?_
  simpa using h
end
end Go.Proofs.Ytocofjimkfffeaa.Rw
