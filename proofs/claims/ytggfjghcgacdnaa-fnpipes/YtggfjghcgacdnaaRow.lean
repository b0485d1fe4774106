/-
  Blocks of a call's own, as they stand: reading and writing a whole struct, and handing one back. Parts of a block of a call's own: a field, or a struct within a struct, read and written in its place.
-/
import Derived.Test.YtggfjghcgacdnaaBase
import Derived.Laws.ResultCell
import Derived.Laws.Tables
import Derived.Laws.Rows
import Derived.Deep.MidRow
namespace Go.Proofs.Ytggfjghcgacdnaa.Rw
open Go.RowKit Base
set_option linter.unusedVariables false
set_option maxRecDepth 20000

/-- A block as it stands. -/
structure Row (w : World) (b : Nat) (cs : Array Value) (T : TypeId) : Prop where
  row : w.heap[b]? = some (.cells cs T (0, 0))
  cell : ∀ o, w.cell? ⟨b, o, none⟩ = cs[o]?
  free : ∀ o, w.frozen? ⟨b, o, none⟩ = false
  lt : b < w.heap.size
theorem Row.of {w : World} {b : Nat} {cs : Array Value} {T : TypeId} (h : w.heap[b]? = some (.cells cs T (0, 0))) : Row w b cs T :=
  ⟨h, fun o => cell_of_row w b o cs T (0, 0) h, fun o => frozen_of_row w b o cs T h, by
    by_cases hl : b < w.heap.size
    · exact hl
    · simp at hl; simp [hl] at h⟩
theorem Row.new (w : World) (cs : Array Value) (T : TypeId) : Row (w.alloc (.cells cs T)) w.heap.size cs T := Row.of (heap_alloc_new _ _)
theorem Row.new1 {w : World} {n : Nat} (h : w.heap.size = n) (cs : Array Value) (T : TypeId) : Row (w.alloc (.cells cs T)) n cs T := h ▸ Row.new w cs T
theorem Row.keep {w w' : World} {b : Nat} {cs : Array Value} {T : TypeId} (h : Row w b cs T) (hk : w'.heap[b]? = w.heap[b]?) : Row w' b cs T := Row.of (hk.trans h.row)
theorem Row.below {w w' : World} {b : Nat} {cs : Array Value} {T : TypeId} (h : Row w b cs T) (hb : Below w.heap.size w w') : Row w' b cs T := h.keep (hb.block b h.lt)
theorem Row.alloc {w : World} {b : Nat} {cs : Array Value} {T : TypeId} (h : Row w b cs T) (o : Obj) : Row (w.alloc o) b cs T := h.below ((Below.refl _ _).alloc (Nat.le_refl _) _)
theorem Row.drewN {w : World} {b : Nat} {cs : Array Value} {T : TypeId} (h : Row w b cs T) (n : Nat) : Row (w.drewN n) b cs T := h.keep rfl
theorem Row.onto {p : Nat} {w w' : World} {b : Nat} {cs : Array Value} {T : TypeId} (h : Row w b cs T) (ho : Onto p w w') (hp : b ≠ p) : Row w' b cs T := h.keep (ho.block b hp h.lt)
theorem Row.set {w : World} {b : Nat} {cs : Array Value} {T : TypeId} (h : Row w b cs T) (i : Nat) (v : Value) : Row (w.setCell ⟨b, i, none⟩ v) b (cs.setIfInBounds i v) T := Row.of (heap_setCell_same w b i cs T v h.row)
theorem Row.setOther {w : World} {b : Nat} {cs : Array Value} {T : TypeId} (h : Row w b cs T) (q : Addr) (v : Value) (hq : b ≠ q.block) : Row (w.setCell q v) b cs T := h.keep (heap_setCell_other w q b v hq)
theorem below_onto {p : Nat} {w w' w'' : World} (h : Below w.heap.size w w') (ho : Onto p w' w'') (hp : w.heap.size ≤ p) : Below w.heap.size w w'' :=
  ⟨ho.os.trans h.os, ho.tape.trans h.tape, ho.output.trans h.output, Nat.le_trans h.size ho.size, fun k hk => by
    have := h.size
    rw [ho.block k (by omega) (by omega)]; exact h.block k hk⟩
theorem below_more {w w' w'' : World} (h : Below w.heap.size w w') (hb : Below w'.heap.size w' w'') : Below w.heap.size w w'' := h.trans (hb.mono h.size)
theorem box2 {w w1 : World} {A B : Array Value} {T U : TypeId} (hb : Below ((w.alloc (.cells A T)).alloc (.cells B U)).heap.size ((w.alloc (.cells A T)).alloc (.cells B U)) w1) :
    Row w1 w.heap.size A T ∧ Row w1 (w.heap.size + 1) B U ∧ Below w.heap.size w w1 :=
  ⟨((Row.new w A T).alloc _).below hb, (Row.new1 (w := w.alloc _) (n := w.heap.size + 1) (by simp) B U).below hb, (((Below.refl _ w).alloc (Nat.le_refl _) _).alloc (by simp) _).trans (hb.mono (by simp; omega))⟩
/-- Blocks, each as it stands. -/
def Rows (w : World) (L : List (Nat × Array Value × TypeId)) : Prop := ∀ x ∈ L, Row w x.1 x.2.1 x.2.2
theorem Rows.none (w : World) : Rows w [] := fun _ h => by cases h
theorem Rows.below {w w' : World} {L : List (Nat × Array Value × TypeId)} (h : Rows w L) (hb : Below w.heap.size w w') : Rows w' L := fun x hx => (h x hx).below hb
theorem Rows.drew {w : World} {L : List (Nat × Array Value × TypeId)} (h : Rows w L) : Rows w.drew L := fun x hx => (h x hx).drewN 1
theorem Rows.alloc {w : World} {L : List (Nat × Array Value × TypeId)} (h : Rows w L) (cs : Array Value) (T : TypeId) : Rows (w.alloc (.cells cs T)) ((w.heap.size, cs, T) :: L) := fun x hx => by
  rcases List.mem_cons.1 hx with rfl | hx
  · exact Row.new w cs T
  · exact (h x hx).alloc _
theorem Rows.at {w : World} {L : List (Nat × Array Value × TypeId)} (h : Rows w L) (i : Nat) {x : Nat × Array Value × TypeId} (hx : L[i]? = some x) : Row w x.1 x.2.1 x.2.2 := h x (List.mem_of_getElem? hx)
section
variable {P : Program}
theorem ld_row {ops : Array Oper} {rest : List Oper} {o : Oper} {a : Act} {w : World} {Q : Exit → Act → World → Prop} (hgd : o.guard = none) (ty : TypeId) (x : Operand) (ho : o.op = .load ty x)
    {g : Nat} (hx : a.eval x = .pointer (some ⟨g, 0, none⟩)) {T : TypeId} {cs : Array Value} (hr : Row w g cs T) {d : TypeDesc}
    (hu : P.underlying ty = some d) (hd : (match d with | .struct _ | .array _ _ => true | _ => false) = true) (hi : (P.info? ty).map (·.size) = some cs.size)
    (h : wpList P ops Q rest (a.put o.dst (.agg cs)) w) : wpList P ops Q (o :: rest) a w :=
  wpList_load_row hgd ty x ho g hx T cs (0, 0) d hr.row hu hd hi h
theorem st_row {ops : Array Oper} {rest : List Oper} {o : Oper} {a : Act} {w : World} {Q : Exit → Act → World → Prop} (hgd : o.guard = none) (ty : TypeId) (x y : Operand) (ho : o.op = .store ty x y)
    {g : Nat} {cells : Array Value} (hx : a.eval x = .pointer (some ⟨g, 0, none⟩)) (hy : a.eval y = .agg cells) {T : TypeId} {old : Array Value} (hr : Row w g old T)
    (hi : (P.info? ty).map (·.size) = some cells.size) (hold : old.size = cells.size) (h1 : cells.all (·.oneCell') = true)
    (h : ∀ w', Row w' g cells T → Onto g w w' → w'.heap.size = w.heap.size → wpList P ops Q rest (a.put o.dst undef) w') : wpList P ops Q (o :: rest) a w :=
  wpList_store_row hgd ty x y ho g cells hx hy T old hr.row hi hold h1
    (h _ (Row.of (setRow_heap w g old cells T _ hr.row)) ⟨rfl, rfl, rfl, by simp, fun k hk _ => setRow_other w g k cells hk⟩ (by simp))
theorem ret_row {fn : Func} {R : Ending → World → Prop} {a : Act} {w : World} {p : Tmp} {ty : TypeId} (h : fn.results = #[.cell p ty]) {g : Nat} {T : TypeId} {cs : Array Value} {d : TypeDesc}
    (hp : a.tmps.getD p undef = .pointer (some ⟨g, 0, none⟩)) (hr : Row w g cs T)
    (hu : P.underlying ty = some d) (hd : (match d with | .struct _ | .array _ _ => true | _ => false) = true) (hi : (P.info? ty).map (·.size) = some cs.size)
    (hde : a.defers = []) (hR : R (.returned (.agg cs)) w) : bodyPost P fn R .ret a w :=
  bodyPost_ret (results_cell_row h a.tmps w g T cs (0, 0) d hp hr.row hu hd hi) hde hR
theorem ret_row_tmp {fn : Func} {R : Ending → World → Prop} {a : Act} {w : World} {p u : Tmp} {ty : TypeId} (h : fn.results = #[.cell p ty, .tmp u]) {g : Nat} {T : TypeId} {cs : Array Value} {d : TypeDesc}
    (hp : a.tmps.getD p undef = .pointer (some ⟨g, 0, none⟩)) (hr : Row w g cs T)
    (hu : P.underlying ty = some d) (hd : (match d with | .struct _ | .array _ _ => true | _ => false) = true) (hi : (P.info? ty).map (·.size) = some cs.size)
    (hde : a.defers = []) {v : Value} (hv : a.tmps.getD u undef = v) (hR : R (.returned (.tuple #[.agg cs, v])) w) : bodyPost P fn R .ret a w := by
  subst hv
  refine bodyPost_ret ?_ hde hR
  rw [results_cell_tmp h, hp]
  simp [asAddr, run_loadVar_row w g T ty cs (0, 0) d hr.row hu hd hi]
theorem ret_row_tmp2 {fn : Func} {R : Ending → World → Prop} {a : Act} {w : World} {p u u2 : Tmp} {ty : TypeId} (h : fn.results = #[.cell p ty, .tmp u, .tmp u2]) {g : Nat} {T : TypeId} {cs : Array Value} {d : TypeDesc}
    (hp : a.tmps.getD p undef = .pointer (some ⟨g, 0, none⟩)) (hr : Row w g cs T)
    (hu : P.underlying ty = some d) (hd : (match d with | .struct _ | .array _ _ => true | _ => false) = true) (hi : (P.info? ty).map (·.size) = some cs.size)
    (hde : a.defers = []) {v v2 : Value} (hv : a.tmps.getD u undef = v) (hv2 : a.tmps.getD u2 undef = v2) (hR : R (.returned (.tuple #[.agg cs, v, v2])) w) : bodyPost P fn R .ret a w := by
  subst hv hv2
  refine bodyPost_ret ?_ hde hR
  have hp' : a.tmps[p]?.getD undef = .pointer (some ⟨g, 0, none⟩) := by simpa using hp
  simp [results, h, hp', asAddr, run_loadVar_row w g T ty cs (0, 0) d hr.row hu hd hi]
end
end Go.Proofs.Ytggfjghcgacdnaa.Rw
namespace Go.Proofs.Ytggfjghcgacdnaa.Rw
open Go.RowKit Base
set_option linter.unusedVariables false
set_option maxRecDepth 20000

/-- An array with a list laid over it from a place on. -/
def spl : List Value → Nat → Array Value → Array Value
  | [], _, cs => cs
  | v :: r, k, cs => spl r (k + 1) (cs.setIfInBounds k v)
theorem Row.cells {g : Nat} {T : TypeId} : ∀ (vs : List Value) (k : Nat) (w : World) (cs : Array Value), Row w g cs T → Row (w.setCells g k vs) g (spl vs k cs) T
  | [], _, _, _, h => h
  | v :: r, k, w, cs, h => Row.cells r (k + 1) _ _ (h.set k v)
theorem onto_cells {g : Nat} : ∀ (vs : List Value) (k : Nat) (w0 w : World), Onto g w0 w → Onto g w0 (w.setCells g k vs)
  | [], _, _, _, h => h
  | v :: r, k, w0, w, h => onto_cells r (k + 1) w0 _ (h.setCell rfl v)
theorem size_cells {g : Nat} : ∀ (vs : List Value) (k : Nat) (w : World), (w.setCells g k vs).heap.size = w.heap.size
  | [], _, _ => rfl
  | v :: r, k, w => (size_cells r (k + 1) _).trans (by simp)
theorem Row.there {w : World} {g : Nat} {cs : Array Value} {T : TypeId} (h : Row w g cs T) (k n : Nat) (hk : k + n ≤ cs.size) : w.there g k n := fun j hj => by
  refine ⟨?_, h.free _⟩
  rw [h.cell]
  simp; omega
section
variable {P : Program}
theorem run_store_in (w : World) (g k : Nat) (ty : TypeId) (v : Value) (vs : List Value) (hv : v.cells.toList = vs) (ht : w.there g k vs.length) (hi : (P.info? ty).map (·.size) = some vs.length) (h1 : vs.all (·.oneCell') = true) :
    (storeVar ty ⟨g, k, none⟩ v).run P w = .ok () (w.setCells g k vs) := by
  subst hv
  have := run_storeCells_cells (P := P) g k v.cells.toList 0 w (fun j hj => by simpa using (ht j (by simpa using hj)).1) (fun j hj => by simpa using (ht j (by simpa using hj)).2)
    (fun u hu => (List.all_eq_true.1 h1) u hu)
  cases hq : P.info? ty with
  | none => simp [hq] at hi
  | some i =>
    have hs : v.cells.size = i.size := by simp [hq] at hi; omega
    simp only [Nat.add_zero] at this
    simp [storeVar, sizeOf, typeInfo, hq, hs, this]
/-- A value goes into its place in a block. -/
theorem st_in {ops : Array Oper} {rest : List Oper} {o : Oper} {a : Act} {w : World} {Q : Exit → Act → World → Prop} (hgd : o.guard = none) {ty : TypeId} {x y : Operand} (ho : o.op = .store ty x y)
    {g k : Nat} {v : Value} {vs : List Value} {cs cs' : Array Value} {T : TypeId} (hx : a.eval x = .pointer (some ⟨g, k, none⟩)) (hy : a.eval y = v) (hr : Row w g cs T) (hv : v.cells.toList = vs)
    (hi : (P.info? ty).map (·.size) = some vs.length) (hk : decide (k + vs.length ≤ cs.size) = true) (h1 : vs.all (·.oneCell') = true) (hcs : spl vs k cs = cs')
    (h : ∀ w', Row w' g cs' T → Onto g w w' → w'.heap.size = w.heap.size → wpList P ops Q rest (a.put o.dst undef) w') : wpList P ops Q (o :: rest) a w :=
  wpList_plain hgd fun _ hK => by
    unfold Oper.wp execOp
    simp only [ho, hx, hy, Instr.storeAt, Instr.sureAddr, Sem.run_bind, Sem.run_pure, Result.andThen_ok, run_store_in w g k ty v vs hv (hr.there k vs.length (of_decide_eq_true hk)) hi h1]
    exact hK _ _ (h _ (hcs ▸ hr.cells vs k) (onto_cells vs k _ _ (Onto.refl _ _)) (size_cells _ _ _))
/-- A number goes into its place. -/
theorem st_int {ops : Array Oper} {rest : List Oper} {o : Oper} {a : Act} {w : World} {Q : Exit → Act → World → Prop} (hgd : o.guard = none) {ty : TypeId} {x y : Operand} (ho : o.op = .store ty x y)
    {g k : Nat} {z : Int} {kd : IntKind} {cs : Array Value} {T : TypeId} (hx : a.eval x = .pointer (some ⟨g, k, none⟩)) (hy : a.eval y = .int kd z) (hr : Row w g cs T)
    (hi : (P.info? ty).map (·.size) = some 1) (hk : decide (k < cs.size) = true)
    (h : ∀ w', Row w' g (cs.setIfInBounds k (.int kd z)) T → Onto g w w' → w'.heap.size = w.heap.size → wpList P ops Q rest (a.put o.dst undef) w') : wpList P ops Q (o :: rest) a w :=
  st_in (vs := [.int kd z]) hgd ho hx hy hr rfl hi hk rfl rfl h
/-- A flag goes into its place. -/
theorem st_flag {ops : Array Oper} {rest : List Oper} {o : Oper} {a : Act} {w : World} {Q : Exit → Act → World → Prop} (hgd : o.guard = none) {ty : TypeId} {x y : Operand} (ho : o.op = .store ty x y)
    {g k : Nat} {z : Bool} {cs : Array Value} {T : TypeId} (hx : a.eval x = .pointer (some ⟨g, k, none⟩)) (hy : a.eval y = .bool z) (hr : Row w g cs T)
    (hi : (P.info? ty).map (·.size) = some 1) (hk : decide (k < cs.size) = true)
    (h : ∀ w', Row w' g (cs.setIfInBounds k (.bool z)) T → Onto g w w' → w'.heap.size = w.heap.size → wpList P ops Q rest (a.put o.dst undef) w') : wpList P ops Q (o :: rest) a w :=
  st_in (vs := [.bool z]) hgd ho hx hy hr rfl hi hk rfl rfl h
/-- A struct of two numbers goes into its place. -/
theorem st_two {ops : Array Oper} {rest : List Oper} {o : Oper} {a : Act} {w : World} {Q : Exit → Act → World → Prop} (hgd : o.guard = none) {ty : TypeId} {x y : Operand} (ho : o.op = .store ty x y)
    {g k : Nat} {z z2 : Int} {kd kd2 : IntKind} {cs : Array Value} {T : TypeId} (hx : a.eval x = .pointer (some ⟨g, k, none⟩)) (hy : a.eval y = .agg #[.int kd z, .int kd2 z2]) (hr : Row w g cs T)
    (hi : (P.info? ty).map (·.size) = some 2) (hk : decide (k + 1 < cs.size) = true)
    (h : ∀ w', Row w' g ((cs.setIfInBounds k (.int kd z)).setIfInBounds (k + 1) (.int kd2 z2)) T → Onto g w w' → w'.heap.size = w.heap.size → wpList P ops Q rest (a.put o.dst undef) w') : wpList P ops Q (o :: rest) a w :=
  st_in (vs := [.int kd z, .int kd2 z2]) hgd ho hx hy hr rfl hi hk rfl rfl h
/-- A struct within a block is read. -/
theorem ld_in {ops : Array Oper} {rest : List Oper} {o : Oper} {a : Act} {w : World} {Q : Exit → Act → World → Prop} (hgd : o.guard = none) {ty : TypeId} {x : Operand} (ho : o.op = .load ty x)
    {g k : Nat} {cs cs' : Array Value} {T : TypeId} {d : TypeDesc} (hx : a.eval x = .pointer (some ⟨g, k, none⟩)) (hr : Row w g cs T) (hu : P.underlying ty = some d) (hd : d.isRow = true)
    (hcs : cs.extract k (k + cs'.size) = cs') (hi : (P.info? ty).map (·.size) = some cs'.size)
    (h : wpList P ops Q rest (a.put o.dst (.agg cs')) w) : wpList P ops Q (o :: rest) a w := by
  have hrange : w.rangeAt g k cs'.toList := by
    have := World.rangeAt_of_block hr.row k cs'.size
    rwa [hcs] at this
  refine wpList_load_mid hgd ty x ho g k hx cs'.toList d hrange hu hd (by simpa using hi) ?_
  simpa using h
/-- A struct within a block is read, in a drawn region. -/
theorem lw_in {o : Oper} {a : Act} {w : World} {K : Act → World → Prop} {Q : Exit → Act → World → Prop} {ty : TypeId} {x : Operand} (ho : o.op = .load ty x)
    {g k : Nat} {cs cs' : Array Value} {T : TypeId} {d : TypeDesc} (hx : a.eval x = .pointer (some ⟨g, k, none⟩)) (hr : Row w g cs T) (hu : P.underlying ty = some d) (hd : d.isRow = true)
    (hcs : cs.extract k (k + cs'.size) = cs') (hi : (P.info? ty).map (·.size) = some cs'.size)
    (h : K (a.put o.dst (.agg cs')) w) : o.wp P a w K Q := by
  have hrange : w.rangeAt g k cs'.toList := by
    have := World.rangeAt_of_block hr.row k cs'.size
    rwa [hcs] at this
  refine wp_load_mid ty x ho g k hx cs'.toList d hrange hu hd (by simpa using hi) ?_
  simpa using h
end
end Go.Proofs.Ytggfjghcgacdnaa.Rw
