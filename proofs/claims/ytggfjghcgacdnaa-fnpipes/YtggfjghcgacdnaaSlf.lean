/-
  Slices whose elements are structs of plain cells, as lists: one that is read, one that a call has made; what a call that writes elsewhere leaves of them.
-/
import Derived.Test.YtggfjghcgacdnaaSlc
import Derived.Test.YtggfjghcgacdnaaRow
import Derived.Test.YtggfjghcgacdnaaReg
namespace Go.Proofs.Ytggfjghcgacdnaa.Slf
open Go.RowKit Base Slc Rw Reg
set_option linter.unusedVariables false
set_option maxRecDepth 20000
set_option linter.unusedSimpArgs false

/-- How an element lies in memory: its type, the slice's type, how many cells, which. -/
structure Fl (α : Type) where
  T : TypeId
  S : TypeId
  n : Nat
  bytes : Nat
  F : α → List Value
  z : α
  V : α → Value
structure Fl.Ok {α : Type} (f : Fl α) : Prop where
  len : ∀ x, (f.F x).length = f.n
  pos : 0 < f.n
  one : ∀ x, (f.F x).all (·.oneCell') = true
  und : Try.prog.underlying f.S = some (.slice f.T)
  info : (Try.prog.info? f.T).map (fun i => (i.zero, i.size, i.bytes)) = some (some (f.V f.z), f.n, f.bytes)
  few : f.bytes ≤ 512
  small : f.n ≤ 64
  val : ∀ x, (f.V x).cells = (f.F x).toArray
  load : ∀ (x : α) (w : World) (b q : Nat), w.rangeAt b q (f.F x) → (loadVar f.T ⟨b, q, none⟩).run Try.prog w = .ok (f.V x) w
def Fl.flat {α : Type} (f : Fl α) (l : List α) : List Value := l.flatMap f.F
section
variable {α : Type} {f : Fl α}
theorem flat_len (hf : f.Ok) (l : List α) : (f.flat l).length = l.length * f.n := by
  induction l with
  | nil => simp [Fl.flat]
  | cons x l ih =>
    have ih' : (l.flatMap f.F).length = l.length * f.n := ih
    simp only [Fl.flat, List.flatMap_cons, List.length_append, hf.len, ih', List.length_cons, Nat.add_mul, Nat.one_mul]
    omega
theorem flat_get (hf : f.Ok) {l : List α} {i : Nat} {x : α} (hi : l[i]? = some x) {j : Nat} (hj : j < f.n) : (f.flat l)[i * f.n + j]? = (f.F x)[j]? := by
  induction l generalizing i with
  | nil => simp at hi
  | cons y l ih =>
    cases i with
    | zero =>
      simp at hi
      subst hi
      simp only [Fl.flat, List.flatMap_cons, Nat.zero_mul, Nat.zero_add]
      rw [List.getElem?_append_left (by rw [hf.len]; exact hj)]
    | succ i =>
      simp at hi
      have h := ih hi
      simp only [Fl.flat, List.flatMap_cons] at h ⊢
      rw [List.getElem?_append_right (by rw [hf.len, Nat.add_mul, Nat.one_mul]; omega), hf.len, ← h]
      congr 1
      rw [Nat.add_mul, Nat.one_mul]
      omega
theorem flat_set (hf : f.Ok) {l : List α} {i : Nat} {x : α} (hi : l[i]? = some x) {j : Nat} (hj : j < f.n) {u : Value} {x' : α} (hx : (f.F x).set j u = f.F x') : (f.flat l).set (i * f.n + j) u = f.flat (l.set i x') := by
  induction l generalizing i with
  | nil => simp at hi
  | cons y l ih =>
    cases i with
    | zero =>
      simp at hi
      subst hi
      simp only [Fl.flat, List.flatMap_cons, Nat.zero_mul, Nat.zero_add, List.set_cons_zero]
      rw [List.set_append_left _ _ (by rw [hf.len]; exact hj), hx]
    | succ i =>
      simp at hi
      have h := ih hi
      simp only [Fl.flat, List.flatMap_cons, List.set_cons_succ] at h ⊢
      rw [List.set_append_right _ _ (by rw [hf.len, Nat.add_mul, Nat.one_mul]; omega), hf.len, ← h]
      congr 2
      rw [Nat.add_mul, Nat.one_mul]
      omega
theorem flat_take (hf : f.Ok) (l : List α) (k : Nat) : (f.flat l).take (k * f.n) = f.flat (l.take k) := by
  induction l generalizing k with
  | nil => simp [Fl.flat]
  | cons y l ih =>
    cases k with
    | zero => simp [Fl.flat]
    | succ k =>
      have h := ih k
      simp only [Fl.flat, List.flatMap_cons, List.take_succ_cons] at h ⊢
      rw [List.take_append, hf.len, ← h, List.take_of_length_le (by rw [hf.len, Nat.add_mul, Nat.one_mul]; omega)]
      congr 2
      rw [Nat.add_mul, Nat.one_mul]
      omega
theorem flat_app (l m : List α) : f.flat (l ++ m) = f.flat l ++ f.flat m := by simp [Fl.flat]
theorem flat_one (hf : f.Ok) (l : List α) : (f.flat l).all (·.oneCell') = true := by
  induction l with
  | nil => rfl
  | cons y l ih =>
    have ih' : (l.flatMap f.F).all (·.oneCell') = true := ih
    simp only [Fl.flat, List.flatMap_cons, List.all_append, ih', hf.one y, Bool.and_self]
end
/-- The slice at a, of len elements, reads as the list l. -/
def AtF {α : Type} (f : Fl α) (w : World) (a : Option Addr) (l : List α) : Prop :=
  l.length = 0 ∨ ∃ b off, a = some ⟨b, off, none⟩ ∧ b < w.heap.size ∧ ∀ k, k < l.length * f.n → w.cell? ⟨b, off + k, none⟩ = (f.flat l)[k]?
/-- The slice value v, whosever it is, reads as l. -/
def SlF {α : Type} (f : Fl α) (w : World) (v : Value) (l : List α) : Prop :=
  ∃ a cap, v = .slice a l.length cap ∧ AtF f w a l ∧ l.length ≤ cap ∧ cap ≤ maxLen ∧ (a = none → l.length = 0 ∧ cap = 0)
/-- The slice value v is a call's own. -/
def OwnF {α : Type} (f : Fl α) (base : Nat) (w : World) (v : Value) (l : List α) : Prop := w.ownsRow base f.T f.n v l.length (f.flat l)
section
variable {α : Type} {f : Fl α} {w w' : World} {v : Value} {l : List α} {a : Option Addr} {base p : Nat} {row : Option Nat}
theorem AtF.keep (h : AtF f w a l) (hs : w.heap.size ≤ w'.heap.size) (hk : 0 < l.length → ∀ x, a = some x → w'.heap[x.block]? = w.heap[x.block]?) : AtF f w' a l := by
  rcases h with h | ⟨b, off, rfl, hb, hc⟩
  · exact .inl h
  · by_cases h0 : 0 < l.length
    · refine .inr ⟨b, off, rfl, Nat.lt_of_lt_of_le hb hs, fun k hk' => ?_⟩
      rw [World.cell?_of_block (w := w) (a := ⟨b, off + k, none⟩) (hk h0 ⟨b, off, none⟩ rfl)]; exact hc k hk'
    · exact .inl (by omega)
theorem AtF.lt (h : AtF f w a l) (h0 : 0 < l.length) : ∀ x, a = some x → x.block < w.heap.size := by
  rcases h with h | ⟨b, off, rfl, hb, hc⟩
  · omega
  · intro x hx; cases hx; exact hb
theorem AtF.below (h : AtF f w a l) (hb : Below w.heap.size w w') : AtF f w' a l := h.keep hb.size fun h0 x hx => hb.block _ (h.lt h0 x hx)
theorem AtF.onto (h : AtF f w a l) (ho : Onto p w w') (hp : 0 < l.length → ∀ x, a = some x → x.block ≠ p) : AtF f w' a l := h.keep ho.size fun h0 x hx => ho.block _ (hp h0 x hx) (h.lt h0 x hx)
theorem SlF.below (h : SlF f w v l) (hb : Below w.heap.size w w') : SlF f w' v l := by
  obtain ⟨a, cap, rfl, h1, h2⟩ := h
  exact ⟨a, cap, rfl, h1.below hb, h2⟩
theorem SlF.lt (h : SlF f w v l) (h0 : 0 < l.length) : ∀ k, v.ownBlock = some k → k < w.heap.size := by
  obtain ⟨a, cap, rfl, h1, h2⟩ := h
  intro k hk
  cases a with
  | none => simp [Value.ownBlock] at hk
  | some x => have := h1.lt h0 x rfl; simp [Value.ownBlock] at hk; omega
theorem SlF.onto (h : SlF f w v l) (ho : Onto p w w') (hv : v.ownBlock ≠ some p) : SlF f w' v l := by
  obtain ⟨a, cap, rfl, h1, h2⟩ := h
  refine ⟨a, cap, rfl, h1.onto ho (fun _ x hx e => hv ?_), h2⟩
  subst hx
  simp [Value.ownBlock, e]
theorem SlF.grown (h : SlF f w v l) (hg : w.grownBy w' row) (hr : 0 < l.length → ∀ k, row = some k → v.ownBlock ≠ some k) : SlF f w' v l := by
  obtain ⟨a, cap, rfl, h1, h2⟩ := h
  refine ⟨a, cap, rfl, h1.keep hg.size (fun h0 x hx => hg.block _ (h1.lt h0 x hx) (fun e => hr h0 _ e.symm ?_)), h2⟩
  subst hx
  rfl
theorem SlF.drewN (h : SlF f w v l) (n : Nat) : SlF f (w.drewN n) v l := h
theorem SlF.one (h : SlF f w v l) : v.oneCell' = true := by
  obtain ⟨a, cap, rfl, _⟩ := h; rfl
theorem OwnF.nil (f : Fl α) (base : Nat) (w : World) : OwnF f base w (.slice none 0 0) [] := World.ownsRow_nil _ _ _ _
theorem OwnF.mono {base' : Nat} (h : OwnF f base w v l) (hb : base' ≤ base) : OwnF f base' w v l := by
  refine ⟨h.1, ?_⟩
  rcases h.2 with h0 | ⟨g, cap, cur, rfl, hb', rest⟩
  · exact .inl h0
  · exact .inr ⟨g, cap, cur, rfl, Nat.le_trans hb hb', rest⟩
theorem OwnF.kept (h : OwnF f base w v l) (hk : ∀ k, v.ownBlock = some k → w'.heap[k]? = w.heap[k]?) : OwnF f base w' v l := by
  refine ⟨h.1, ?_⟩
  rcases h.2 with h0 | ⟨g, cap, cur, rfl, hb, hg, rest⟩
  · exact .inl h0
  · exact .inr ⟨g, cap, cur, rfl, hb, by rw [hk g rfl]; exact hg, rest⟩
theorem OwnF.lt (h : OwnF f base w v l) : ∀ k, v.ownBlock = some k → base ≤ k ∧ k < w.heap.size := World.ownsRow.lt h
theorem OwnF.below (h : OwnF f base w v l) (hb : Below w.heap.size w w') : OwnF f base w' v l := h.kept fun k hk => hb.block k (h.lt k hk).2
theorem OwnF.onto (h : OwnF f base w v l) (ho : Onto p w w') (hp : v.ownBlock ≠ some p) : OwnF f base w' v l :=
  h.kept fun k hk => ho.block k (fun e => hp (by rw [hk, e])) (h.lt k hk).2
theorem OwnF.grown (h : OwnF f base w v l) (hg : w.grownBy w' row) (hr : ∀ k, row = some k → v.ownBlock ≠ some k) : OwnF f base w' v l :=
  h.kept fun k hk => hg.block k (h.lt k hk).2 (fun e => hr k e.symm hk)
theorem OwnF.drewN (h : OwnF f base w v l) (n : Nat) : OwnF f base (w.drewN n) v l := h
theorem OwnF.sl (hf : f.Ok) (h : OwnF f base w v l) : SlF f w v l := by
  have hlt := h.lt
  rcases h.2 with ⟨rfl, h0⟩ | ⟨g, cap, cur, rfl, hb, hg, hn, hm, hcs, ht⟩
  · exact ⟨none, 0, by rw [h0], .inl h0, by omega, by decide, fun _ => ⟨h0, rfl⟩⟩
  · refine ⟨some ⟨g, 0, none⟩, cap, rfl, .inr ⟨g, 0, rfl, (hlt g rfl).2, fun k hk => ?_⟩, hn, hm, by simp⟩
    have hk' : k < (f.flat l).length := by rw [flat_len hf]; exact hk
    have := World.ownsRow.cells h (g := g) rfl k ((f.flat l)[k]) (List.getElem?_eq_getElem hk')
    have e : (⟨g, 0, none⟩ : Addr).add k = ⟨g, 0 + k, none⟩ := by
      by_cases hi0 : k = 0 <;> simp [Addr.add, hi0]
    rw [← e, this, List.getElem?_eq_getElem hk']
theorem OwnF.one (hf : f.Ok) (h : OwnF f base w v l) : v.oneCell' = true := (h.sl hf).one
theorem OwnF.block (h : OwnF f base w v l) (h0 : 0 < l.length) : ∃ g cap, v = .slice (some ⟨g, 0, none⟩) l.length cap ∧ base ≤ g ∧ g < w.heap.size ∧ l.length ≤ cap ∧ cap ≤ maxLen := by
  have hlt := h.lt
  rcases h.2 with ⟨rfl, hn⟩ | ⟨g, cap, cur, rfl, hb, hg, hn, hm, hcs, ht⟩
  · omega
  · exact ⟨g, cap, rfl, hb, (hlt g rfl).2, hn, hm⟩
/-- The block of such a list is no block of another type. -/
theorem OwnF.not_row {g : Nat} {cs : Array Value} {T : TypeId} (h : OwnF f base w v l) (hr : Row w g cs T) (hT : T ≠ f.T) : v.ownBlock ≠ some g := fun e => by
  rcases h.2 with ⟨rfl, _⟩ | ⟨g', cap, cur, rfl, _, hb, _⟩
  · simp [Value.ownBlock] at e
  · have e' : g' = g := Option.some.inj e
    rw [e', hr.row] at hb
    simp only [Option.some.injEq, Obj.cells.injEq] at hb
    exact hT hb.2.1
/-- A store of one cell. -/
theorem OwnF.store (hf : f.Ok) {g n cap i j : Nat} {x x' : α} {u : Value} (h : OwnF f base w (.slice (some ⟨g, 0, none⟩) n cap) l) (hi : l[i]? = some x) (hj : j < f.n) (hx : (f.F x).set j u = f.F x') :
    OwnF f base (w.setCell ⟨g, i * f.n + j, none⟩ u) (.slice (some ⟨g, 0, none⟩) n cap) (l.set i x') ∧ w.grownBy (w.setCell ⟨g, i * f.n + j, none⟩ u) (some g) := by
  have hn : l.length = n := by
    rcases h.2 with ⟨e, _⟩ | ⟨g', cap', cur, e, _⟩
    · cases e
    · simp only [Value.slice.injEq] at e; exact e.2.1.symm
  subst hn
  have hs := World.ownsRow.stored h (i * f.n + j) u
  refine ⟨?_, hs.2⟩
  unfold OwnF
  rw [List.length_set, ← flat_set hf hi hj hx]
  exact hs.1
theorem OwnF.cellAt (hf : f.Ok) {g n cap i j : Nat} {x : α} (h : OwnF f base w (.slice (some ⟨g, 0, none⟩) n cap) l) (hi : l[i]? = some x) (hj : j < f.n) : w.cell? ⟨g, i * f.n + j, none⟩ = (f.F x)[j]? := by
  obtain ⟨a, c, he, h1, _⟩ := h.sl hf
  simp only [Value.slice.injEq] at he
  obtain ⟨rfl, rfl, rfl⟩ := he
  have hil : i < l.length := (List.getElem?_eq_some_iff.1 hi).1
  rcases h1 with h0 | ⟨b, off, hb, _, hc⟩
  · omega
  · simp only [Option.some.injEq, Addr.mk.injEq] at hb
    obtain ⟨rfl, rfl, _⟩ := hb
    have hlt : i * f.n + j < l.length * f.n := by
      have : (i + 1) * f.n ≤ l.length * f.n := Nat.mul_le_mul_right _ hil
      rw [Nat.add_mul, Nat.one_mul] at this
      omega
    have := hc _ hlt
    rw [Nat.zero_add] at this
    rw [this, flat_get hf hi hj]
theorem OwnF.free {g n cap : Nat} (h : OwnF f base w (.slice (some ⟨g, 0, none⟩) n cap) l) (j : Nat) : w.frozen? ⟨g, j, none⟩ = false := by
  have hn : l.length = n := by
    rcases h.2 with ⟨e, _⟩ | ⟨g', cap', cur, e, _⟩
    · cases e
    · simp only [Value.slice.injEq] at e; exact e.2.1.symm
  subst hn
  exact World.ownsRow.frozenAt h j
/-- append, onto a slice that is the call's own, of a slice that reads as news. -/
theorem appF (hf : f.Ok) {ops : Array Oper} {rest : List Oper} {o : Oper} {a : Act} {Q : Exit → Act → World → Prop} (hgd : o.guard = none) (s x : Operand)
    (ho : o.op = .call { callee := .builtin .append, args := #[s, x], argTypes := #[f.S, f.S] })
    (base : Nat) (l news : List α) (hown : OwnF f base w (a.eval s) l) (hn : SlF f w (a.eval x) news) (hbd : l.length + news.length ≤ 100000000) (hbase : base ≤ w.heap.size)
    (h : ∀ v' w', OwnF f base w' v' (l ++ news) → w.grownBy w' (a.eval s).ownBlock → wpList Try.prog ops Q rest (a.put o.dst v') w') : wpList Try.prog ops Q (o :: rest) a w := by
  obtain ⟨i0, hi, hz0, hz1, hz2⟩ := info_parts hf.info
  obtain ⟨ao, cap, hx, hat, hlc, hcm, hnil⟩ := hn
  have hfew := hf.few
  cases ao with
  | none =>
    obtain ⟨h0, rfl⟩ := hnil rfl
    have : news = [] := List.eq_nil_of_length_eq_zero h0
    subst this
    refine wpList_append_own_none hgd s x f.S ho base f.T i0 f.n hf.und hi (a.eval s) l.length (f.flat l) rfl hown hx ?_
    have hh := h (a.eval s) w (by simpa using hown) (World.grownBy.refl w _)
    exact hh
  | some ad =>
    refine wpList_append_own w hgd s x f.S ho base f.T i0 (f.V f.z) f.n f.bytes hf.und hi hz0 hz1 hz2 ?_ ?_ (a.eval s) l.length (f.flat l) rfl hown ad news.length cap (f.flat news) hx (flat_len hf _) ?_ ?_ ?_ ?_ hbase ?_
    · rw [hf.val]; simp [hf.len]
    · exact hf.pos
    · intro j u hj
      have hjl : j < news.length * f.n := by
        have := (List.getElem?_eq_some_iff.1 hj).1
        rwa [flat_len hf] at this
      rcases hat with h0 | ⟨b, off, hb, hbs, hc⟩
      · rw [h0] at hjl; omega
      · cases hb
        have e : (⟨b, off, none⟩ : Addr).add j = ⟨b, off + j, none⟩ := by
          by_cases hi0 : j = 0 <;> simp [Addr.add, hi0]
        rw [e, hc j hjl, hj]
    · intro u hu
      exact List.all_eq_true.1 (flat_one hf news) u hu
    · unfold maxLen; omega
    · exact Nat.le_trans (Nat.mul_le_mul hbd hfew) (by decide)
    · intro v' w' h2 h3 _
      refine h v' w' ?_ h3
      unfold OwnF
      rw [List.length_append, flat_app]
      exact h2
/-- A slice literal in a new block. -/
theorem own_litF (f : Fl α) (hf : f.Ok) (base : Nat) (w : World) (cs : Array Value) (l : List α) (hc : cs.toList = f.flat l) (hm : l.length ≤ maxLen) (hb : base ≤ w.heap.size) :
    OwnF f base (w.alloc (.cells cs f.T)) (.slice (some ⟨w.heap.size, 0, none⟩) l.length l.length) l := by
  have hs : cs.size = l.length * f.n := by rw [← Array.length_toList, hc, flat_len hf]
  exact ⟨flat_len hf l, .inr ⟨w.heap.size, l.length, cs, rfl, hb, heap_alloc_new w _, Nat.le_refl _, hm, hs, by rw [← hc, List.take_of_length_le (by simp; omega)]⟩⟩
theorem made_flat (hf : f.Ok) (k : Nat) : (madeCells (f.V f.z).cells (k * f.n)).toList = f.flat (List.replicate k f.z) := by
  have hz : (f.V f.z).cells = (f.F f.z).toArray := hf.val f.z
  have hn := hf.pos
  rw [hz]
  apply List.ext_getElem?
  intro i
  by_cases hi : i < k * f.n
  · have h1 : i / f.n < k := by rw [Nat.div_lt_iff_lt_mul hn]; exact hi
    have h2 : i % f.n < f.n := Nat.mod_lt _ hn
    have e : i = i / f.n * f.n + i % f.n := by rw [Nat.mul_comm]; exact (Nat.div_add_mod i f.n).symm
    have hl := hf.len f.z
    have hr : (List.replicate k f.z)[i / f.n]? = some f.z := by simp [h1]
    have hg := flat_get hf hr h2
    rw [← e] at hg
    rw [hg]
    have hs : (f.F f.z).toArray.size = f.n := by simp [hl]
    simp only [madeCells, Array.getElem?_toList, Array.getElem?_map, Array.getElem?_range, hi, if_true, Option.map_some, hs]
    rw [List.getElem?_eq_getElem (by omega), getElem!_pos (f.F f.z).toArray (i % f.n) (by simp [hl]; exact h2)]
    simp
  · have h1 : ((madeCells (f.F f.z).toArray (k * f.n)).toList)[i]? = none := by simp [madeCells]; omega
    have h2 : (f.flat (List.replicate k f.z))[i]? = none := by
      rw [List.getElem?_eq_none_iff, flat_len hf]; simp; omega
    rw [h1, h2]
/-- make of such a slice. -/
theorem makeF (hf : f.Ok) {ops : Array Oper} {rest : List Oper} {o : Oper} {a : Act} {Q : Exit → Act → World → Prop} (hgd : o.guard = none) (s x : Operand)
    (ho : o.op = .makeSlice f.S s x) (base n : Nat) (z : Int) (hz : z = (n : Int)) (hs : a.eval s = .int .i64 z) (hx : a.eval x = .int .i64 z) (hbd : n ≤ 100000000) (hbase : base ≤ w.heap.size)
    (h : ∀ w', OwnF f base w' (.slice (some ⟨w.heap.size, 0, none⟩) n n) (List.replicate n f.z) → w.grownBy w' none → wpList Try.prog ops Q rest (a.put o.dst (.slice (some ⟨w.heap.size, 0, none⟩) n n)) w') : wpList Try.prog ops Q (o :: rest) a w := by
  obtain ⟨i0, hi, hz0, hz1, hz2⟩ := info_parts hf.info
  have hfew := hf.few
  refine wpList_make_full w hgd s x f.S ho base f.T i0 (f.V f.z) f.n hf.und hi hz0 hz1 .i64 .i64 z z n hs hx hz hz ?_ (by unfold maxLen; omega) hbase ?_
  · rw [hz2]; exact Nat.le_trans (Nat.mul_le_mul hfew hbd) (by decide)
  intro w' h1 h2
  refine h w' ?_ h2
  unfold OwnF
  rw [made_flat hf] at h1
  simpa using h1
/-- A part of a list. -/
theorem SlF.take (hf : f.Ok) {b off n c : Nat} (h : SlF f w (.slice (some ⟨b, off, none⟩) n c) l) (k : Nat) (hk : k ≤ n) : SlF f w (.slice (some ⟨b, off, none⟩) k c) (l.take k) := by
  obtain ⟨a, c', he, h1, h2, h3, h4⟩ := h
  simp only [Value.slice.injEq] at he
  obtain ⟨rfl, rfl, rfl⟩ := he
  have hl : (l.take k).length = k := by simp; omega
  refine ⟨_, c, by rw [hl], ?_, by omega, h3, by simp⟩
  rcases h1 with h0 | ⟨b', off', hb, hbs, hc⟩
  · exact .inl (by omega)
  · refine .inr ⟨b', off', hb, hbs, fun j hj => ?_⟩
    rw [hl] at hj
    have h5 : k * f.n ≤ l.length * f.n := Nat.mul_le_mul_right _ hk
    rw [hc j (by omega), ← flat_take hf, List.getElem?_take, if_pos hj]
theorem SlF.drop (hf : f.Ok) {b off n c : Nat} (h : SlF f w (.slice (some ⟨b, off, none⟩) n c) l) (k : Nat) (hk : k ≤ n) (hkc : k < c) : SlF f w (.slice (some ⟨b, off + k * f.n, none⟩) (n - k) (c - k)) (l.drop k) := by
  obtain ⟨a, c', he, h1, h2, h3, h4⟩ := h
  simp only [Value.slice.injEq] at he
  obtain ⟨rfl, rfl, rfl⟩ := he
  have hl : (l.drop k).length = l.length - k := by simp
  refine ⟨_, c - k, by rw [hl], ?_, by omega, by omega, by simp⟩
  rcases h1 with h0 | ⟨b', off', hb, hbs, hc⟩
  · exact .inl (by omega)
  · simp only [Option.some.injEq, Addr.mk.injEq] at hb
    obtain ⟨rfl, rfl, _⟩ := hb
    refine .inr ⟨b, off + k * f.n, rfl, hbs, fun j hj => ?_⟩
    rw [hl] at hj
    have h5 : k * f.n + (l.length - k) * f.n = l.length * f.n := by rw [← Nat.add_mul]; congr 1; omega
    have e : f.flat l = f.flat (l.take k) ++ f.flat (l.drop k) := by rw [← flat_app, List.take_append_drop]
    have hlt : (f.flat (l.take k)).length = k * f.n := by rw [flat_len hf]; congr 1; simp; omega
    rw [Nat.add_assoc, hc (k * f.n + j) (by omega), e, List.getElem?_append_right (by omega), hlt]
    congr 1
    omega
/-- The cells of an element. -/
theorem SlF.cell (hf : f.Ok) {b off n c i j : Nat} {x : α} (h : SlF f w (.slice (some ⟨b, off, none⟩) n c) l) (hi : l[i]? = some x) (hj : j < f.n) : w.cell? ⟨b, off + (i * f.n + j), none⟩ = (f.F x)[j]? := by
  obtain ⟨a, c', he, h1, _⟩ := h
  simp only [Value.slice.injEq] at he
  obtain ⟨rfl, rfl, rfl⟩ := he
  have hil : i < l.length := (List.getElem?_eq_some_iff.1 hi).1
  rcases h1 with h0 | ⟨b', off', hb, _, hc⟩
  · omega
  · simp only [Option.some.injEq, Addr.mk.injEq] at hb
    obtain ⟨rfl, rfl, _⟩ := hb
    have hlt : i * f.n + j < l.length * f.n := by
      have : (i + 1) * f.n ≤ l.length * f.n := Nat.mul_le_mul_right _ hil
      rw [Nat.add_mul, Nat.one_mul] at this
      omega
    rw [hc _ hlt, flat_get hf hi hj]
theorem SlF.shape (h : SlF f w v l) (h0 : 0 < l.length) : ∃ b off c, v = .slice (some ⟨b, off, none⟩) l.length c ∧ b < w.heap.size ∧ l.length ≤ c ∧ c ≤ maxLen := by
  obtain ⟨a, c, rfl, h1, h2, h3, h4⟩ := h
  rcases h1 with h | ⟨b, off, rfl, hb, hc⟩
  · omega
  · exact ⟨b, off, c, rfl, hb, h2, h3⟩
theorem SlF.range (hf : f.Ok) {b off n c i : Nat} {x : α} (h : SlF f w (.slice (some ⟨b, off, none⟩) n c) l) (hi : l[i]? = some x) : w.rangeAt b (off + i * f.n) (f.F x) := fun j u hj => by
  have hjn : j < f.n := by have := (List.getElem?_eq_some_iff.1 hj).1; rwa [hf.len] at this
  rw [Nat.add_assoc, h.cell hf hi hjn, hj]
theorem size_info (hf : f.Ok) (x : α) : (Try.prog.info? f.T).map (·.size) = some (f.F x).length := by
  obtain ⟨i0, hi, hz0, hz1, hz2⟩ := info_parts hf.info
  rw [hi, hf.len]
  simp [hz1]
theorem sizeF (hf : f.Ok) (w : World) : (sizeOf f.T).run Try.prog w = .ok f.n w := by
  obtain ⟨i0, hie, hz0, h1, hz2⟩ := info_parts hf.info
  simp only [sizeOf, typeInfo, hie, Sem.run_bind, run_program, Result.andThen_ok, Sem.run_pure, h1]
section
variable {ops : Array Oper} {rest : List Oper} {o : Oper} {A : Act} {K : Act → World → Prop} {Q : Exit → Act → World → Prop} {x y : Operand}
/-- An element is read. -/
theorem elF (hf : f.Ok) {b q : Nat} {e : α} (hgd : o.guard = none) (ho : o.op = .load f.T x) (hx : A.eval x = .pointer (some ⟨b, q, none⟩)) (hr : w.rangeAt b q (f.F e)) (h : wpList Try.prog ops Q rest (A.put o.dst (f.V e)) w) : wpList Try.prog ops Q (o :: rest) A w := by
  refine wpList_plain hgd fun _ hK => ?_
  unfold Oper.wp execOp
  simp only [ho, hx, Instr.loadAt, Instr.sureAddr, Sem.run_bind, Sem.run_pure, Result.andThen_ok, hf.load e w b q hr]
  exact hK _ _ h
theorem elF_op (hf : f.Ok) {b q : Nat} {e : α} (ho : o.op = .load f.T x) (hx : A.eval x = .pointer (some ⟨b, q, none⟩)) (hr : w.rangeAt b q (f.F e)) (h : K (A.put o.dst (f.V e)) w) : o.wp Try.prog A w K Q := by
  unfold Oper.wp execOp
  simp only [ho, hx, Instr.loadAt, Instr.sureAddr, Sem.run_bind, Sem.run_pure, Result.andThen_ok, hf.load e w b q hr]
  exact h
/-- The place of an element. -/
theorem ixF_op (hf : f.Ok) {b off n c r : Nat} {k : IntKind} (ho : o.op = .indexAddr f.S x y) (hx : A.eval x = .slice (some ⟨b, off, none⟩) n c) (hy : A.eval y = .int k (r : Int)) (hr : r < n) (h : K (A.put o.dst (.pointer (some ⟨b, off + r * f.n, none⟩))) w) : o.wp Try.prog A w K Q := by
  unfold Oper.wp execOp
  have hu := hf.und
  have he : Try.prog.elem f.S = f.T := by simp [Program.elem, hu]
  have hu' : Try.prog.underlying f.S = some (.slice (Try.prog.elem f.S)) := by rw [he]; exact hu
  have hi : (0 : Int) ≤ (r : Int) ∧ (r : Int) < (n : Int) := by omega
  obtain ⟨i0, hie, hz0, h1, hz2⟩ := info_parts hf.info
  have ha : (⟨b, off, none⟩ : Addr).add (r * f.n) = ⟨b, off + r * f.n, none⟩ := Addr.add_mid _ _ _
  simp only [ho, hx, hy, Sem.run_bind, run_indexAt_slice w f.S _ _ _ _ _ hu', he, if_pos hi]
  simp only [sizeOf, typeInfo, hie, Sem.run_bind, run_program, Result.andThen_ok, Sem.run_pure, h1, Int.toNat_natCast, ha]
  exact h
theorem ixF (hf : f.Ok) {b off n c r : Nat} {k : IntKind} (hgd : o.guard = none) (ho : o.op = .indexAddr f.S x y) (hx : A.eval x = .slice (some ⟨b, off, none⟩) n c) (hy : A.eval y = .int k (r : Int)) (hr : r < n) (h : wpList Try.prog ops Q rest (A.put o.dst (.pointer (some ⟨b, off + r * f.n, none⟩))) w) : wpList Try.prog ops Q (o :: rest) A w :=
  wpList_plain hgd fun _ hK => ixF_op hf ho hx hy hr (hK _ _ h)
/-- A part of a list, from its beginning or to its end. -/
theorem toF_op (hf : f.Ok) {b off n c r : Nat} (ho : o.op = .slice f.S x none (some y) none) (hx : A.eval x = .slice (some ⟨b, off, none⟩) n c) (hz : A.eval y = .int .i64 (r : Int)) (hr : r ≤ c) (hc : 0 < c) (h : K (A.put o.dst (.slice (some ⟨b, off, none⟩) r c)) w) : o.wp Try.prog A w K Q := by
  refine val_op (v := .slice (some ⟨b, off, none⟩) r c) ?_ h
  clear h
  generalize A.eval = ev at hx hz ⊢
  unfold execOp
  simp only [ho, hx]
  have hr' : ((r : Int) ≤ (c : Int)) := by omega
  have hu := hf.und
  simp [go_sem, hz, hr', hr, hu, sizeF hf]
theorem fromF_op (hf : f.Ok) {b off n c r : Nat} (ho : o.op = .slice f.S x (some y) none none) (hx : A.eval x = .slice (some ⟨b, off, none⟩) n c) (hz : A.eval y = .int .i64 (r : Int)) (hr : r ≤ n) (hc : n ≤ c) (hrc : r < c) (h : K (A.put o.dst (.slice (some ⟨b, off + r * f.n, none⟩) (n - r) (c - r))) w) : o.wp Try.prog A w K Q := by
  refine val_op (v := .slice (some ⟨b, off + r * f.n, none⟩) (n - r) (c - r)) ?_ h
  clear h
  generalize A.eval = ev at hx hz ⊢
  unfold execOp
  simp only [ho, hx]
  have hr' : ((r : Int) ≤ (n : Int)) := by omega
  have hne : ¬ c = r := by omega
  have hu := hf.und
  simp [go_sem, hz, hr', hr, hu, sizeF hf, hne, Addr.add_mid]
theorem endF_op (hf : f.Ok) {b off n : Nat} (ho : o.op = .slice f.S x (some y) none none) (hx : A.eval x = .slice (some ⟨b, off, none⟩) n n) (hz : A.eval y = .int .i64 (n : Int)) (h : K (A.put o.dst (.slice (some ⟨b, off, none⟩) 0 0)) w) : o.wp Try.prog A w K Q := by
  refine val_op (v := .slice (some ⟨b, off, none⟩) 0 0) ?_ h
  clear h
  generalize A.eval = ev at hx hz ⊢
  unfold execOp
  simp only [ho, hx]
  have hu := hf.und
  simp [go_sem, hz, hu, sizeF hf]
/-- A list from a place on. -/
theorem fromF (hf : f.Ok) {b off n c r : Nat} (hgd : o.guard = none) (ho : o.op = .slice f.S x (some y) none none) (hx : A.eval x = .slice (some ⟨b, off, none⟩) n c) (hz : A.eval y = .int .i64 (r : Int)) (hr : r ≤ n) (hs : SlF f w (.slice (some ⟨b, off, none⟩) n c) l)
    (h : ∀ v', SlF f w v' (l.drop r) → wpList Try.prog ops Q rest (A.put o.dst v') w) : wpList Try.prog ops Q (o :: rest) A w := by
  have hnl : l.length = n ∧ n ≤ c := by
    obtain ⟨a, c', he, h1, h2, _⟩ := hs
    simp only [Value.slice.injEq] at he
    obtain ⟨_, rfl, rfl⟩ := he
    exact ⟨rfl, h2⟩
  refine wpList_plain hgd fun K hK => ?_
  by_cases hrc : r < c
  · exact fromF_op hf ho hx hz hr hnl.2 hrc (hK _ _ (h _ (hs.drop hf r hr hrc)))
  · obtain rfl : r = n := by omega
    obtain rfl : r = c := by omega
    refine endF_op hf ho hx hz (hK _ _ (h _ ?_))
    have : l.drop r = [] := List.drop_of_length_le (by omega)
    rw [this]
    exact ⟨_, 0, rfl, .inl rfl, Nat.le_refl _, by decide, by simp⟩
theorem to0_op (hf : f.Ok) {a : Option Addr} {c : Nat} (ha : a = none → c = 0) (ho : o.op = .slice f.S x none (some y) none) (hx : A.eval x = .slice a 0 c) (hz : A.eval y = .int .i64 0) (h : K (A.put o.dst (.slice a 0 c)) w) : o.wp Try.prog A w K Q := by
  refine val_op (v := .slice a 0 c) ?_ h
  clear h
  generalize A.eval = ev at hx hz ⊢
  unfold execOp
  simp only [ho, hx]
  have hu := hf.und
  cases a with
  | none => obtain rfl := ha rfl; simp [go_sem, hz, hu, sizeF hf]
  | some ad => simp [go_sem, hz, hu, sizeF hf]
theorem from0_op (hf : f.Ok) {a : Option Addr} {c : Nat} (ha : a = none → c = 0) (ho : o.op = .slice f.S x (some y) none none) (hx : A.eval x = .slice a 0 c) (hz : A.eval y = .int .i64 0) (h : K (A.put o.dst (.slice a 0 c)) w) : o.wp Try.prog A w K Q := by
  refine val_op (v := .slice a 0 c) ?_ h
  clear h
  generalize A.eval = ev at hx hz ⊢
  unfold execOp
  simp only [ho, hx]
  have hu := hf.und
  cases a with
  | none => obtain rfl := ha rfl; simp [go_sem, hz, hu, sizeF hf]
  | some ad => simp [go_sem, hz, hu, sizeF hf]
/-- append, in a drawn region. -/
theorem appF_op (hf : f.Ok) (base : Nat) (l news : List α) (ho : o.op = .call { callee := .builtin .append, args := #[x, y], argTypes := #[f.S, f.S] }) (hown : OwnF f base w (A.eval x) l) (hn : SlF f w (A.eval y) news) (h0 : 0 < news.length) (hbd : l.length + news.length ≤ 100000000) (hbase : base ≤ w.heap.size)
    (h : ∀ v' w', OwnF f base w' v' (l ++ news) → w.grownBy w' (A.eval x).ownBlock → K (A.put o.dst v') w') : o.wp Try.prog A w K Q := by
  obtain ⟨i0, hi, hz0, hz1, hz2⟩ := info_parts hf.info
  obtain ⟨ao, cap, hx, hat, hlc, hcm, hnil⟩ := hn
  have hfew := hf.few
  cases ao with
  | none => have := (hnil rfl).1; omega
  | some ad =>
    refine wp_append_own w x y f.S ho base f.T i0 (f.V f.z) f.n f.bytes hf.und hi hz0 hz1 hz2 ?_ hf.pos (A.eval x) l.length (f.flat l) rfl hown ad news.length cap (f.flat news) hx (flat_len hf _) ?_ ?_ ?_ ?_ hbase ?_
    · rw [hf.val]; simp [hf.len]
    · intro j u hj
      have hjl : j < news.length * f.n := by
        have := (List.getElem?_eq_some_iff.1 hj).1
        rwa [flat_len hf] at this
      rcases hat with h0 | ⟨b, off, hb, hbs, hc⟩
      · rw [h0] at hjl; omega
      · cases hb
        rw [Addr.add_mid, hc j hjl, hj]
    · intro u hu
      exact List.all_eq_true.1 (flat_one hf news) u hu
    · unfold maxLen; omega
    · exact Nat.le_trans (Nat.mul_le_mul hbd hfew) (by decide)
    · intro v' w' h2 h3 _
      refine h v' w' ?_ h3
      unfold OwnF
      rw [List.length_append, flat_app]
      exact h2
/-- A literal of one element, in a drawn region. -/
theorem oneF_op (hf : f.Ok) {e : α} (ho : o.op = .buildSlice f.S 1 #[(0, x)]) (hx : A.eval x = f.V e) (hfill : Instr.fill (fun i => some (i * f.n, f.n)) ((Array.range (1 * f.n)).map ((f.V f.z).cells[· % (f.V f.z).cells.size]!)) [(0, f.V e)] = some (f.F e).toArray)
    (h : ∀ w', OwnF f w.heap.size w' (.slice (some ⟨w.heap.size, 0, none⟩) 1 1) [e] → Below w.heap.size w w' → K (A.put o.dst (.slice (some ⟨w.heap.size, 0, none⟩) 1 1)) w') : o.wp Try.prog A w K Q := by
  obtain ⟨i0, hi, hz0, hz1, hz2⟩ := info_parts hf.info
  have hn := hf.pos
  have hfw := hf.few
  refine wp_buildSlice f.S f.T 1 #[(0, x)] ho (f.F e).toArray i0 (f.V f.z) hf.und hi hz0 ?_ ?_ ?_ (h _ ?_ ((Below.refl _ _).alloc (Nat.le_refl _) _))
  · rw [hz1, Nat.one_mul]; have := hf.small; omega
  · rw [hz1]; omega
  · rw [hz1, ← hfill, ← hx]; simp
  · have := own_litF f hf w.heap.size w (f.F e).toArray [e] (by simp [Fl.flat]) (by unfold maxLen; simp) (Nat.le_refl _)
    exact this
end
end
end Go.Proofs.Ytggfjghcgacdnaa.Slf
