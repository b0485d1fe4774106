/-
  A region whose order of evaluation is drawn, by an invariant that may speak of several slots at once. A map from int64 numbers to int64 numbers, of a call's own, as the list of its entries: asked, laid, struck. Drawn regions: what is told of an operation speaks of slots that it or what it waits for has filled; and one that makes a map of numbers and lays its entries in any order. A drawn region, by an invariant that may speak of several slots, where what a step turns may speak of the slot that it fills. A drawn region, by an invariant that may speak of whether one operation has come. A drawn region in which every slot's value is known, and one operation may turn what stands; one in which that operation waits for all others.
-/
import Derived.Test.YtggfjghcgacdnaaReg
import Derived.Test.YtggfjghcgacdnaaBase
import Derived.Test.YtggfjghcgacdnaaRows
import Derived.MapKept
import Derived.Test.YtggfjghcgacdnaaRow
import Derived.OwnWalk
namespace Go.Proofs.Ytggfjghcgacdnaa.Reg
open Go.RowKit Base
set_option linter.unusedVariables false
set_option maxRecDepth 20000

/-- What stands in a slot. -/
def at_ (a : Act) (k : Nat) : Value := a.tmps.getD k undef
/-- Some operations have come (L): what is told of each holds of the slots and the world; all else is as it was. -/
structure InvG (ops : Array Oper) (G : World → Prop) (T : Nat → (Nat → Value) → World → Prop) (a0 : Act) (L : Nat → Bool) (a : Act) (w : World) : Prop where
  g : G w
  defers : a.defers = a0.defers
  size : a.tmps.size = a0.tmps.size
  told : ∀ j o, ops[j]? = some o → L j = true → T j (at_ a) w
  rest : ∀ k, (∀ j, L j = true → (ops[j]?).bind (·.dst) ≠ some k) → a.tmps.getD k undef = a0.tmps.getD k undef
  closed : ∀ j o d, ops[j]? = some o → L j = true → d ∈ deps o → L d = true
/-- What is told of an operation bears that another one comes for which it does not wait. -/
def Mono (ops : Array Oper) (T : Nat → (Nat → Value) → World → Prop) (R : Nat → World → World → Prop) : Prop :=
  ∀ (L : Nat → Bool) (i j : Nat) (oi oj : Oper) (f f' : Nat → Value) (w w' : World), ops[i]? = some oi → ops[j]? = some oj → L i = false → L j = true → (∀ d ∈ deps oj, L d = true) →
    (∀ k, oi.dst ≠ some k → f' k = f k) → T j f w → R i w w' → T j f' w'

section
variable {P : Program} {ops : Array Oper} {Q : Exit → Act → World → Prop} {G : World → Prop} {T : Nat → (Nat → Value) → World → Prop} {R : Nat → World → World → Prop} {a0 a : Act} {L : Nat → Bool} {w w' : World} {i : Nat} {o : Oper} {v : Value}
theorem InvG.next (h : InvG ops G T a0 L a w) (mono : Mono ops T R) (ho : ops[i]? = some o) (hL : L i = false)
    (hr : ∀ d ∈ deps o, L d = true) (hT : T i (at_ (a.put o.dst v)) w') (hG : G w') (hR : R i w w') : InvG ops G T a0 (fun j => L j || j == i) (a.put o.dst v) w' where
  g := hG
  defers := (put_defers _ _ _).trans h.defers
  size := (put_size _ _ _).trans h.size
  told := fun j oj hj hl => by
    by_cases hji : j = i
    · subst hji; exact hT
    · have hl' : L j = true := by simpa [hji] using hl
      exact mono L i j o oj (at_ a) _ w w' ho hj hL hl' (fun d hd => h.closed j oj d hj hl' hd) (fun k hk => getD_put _ _ _ _ hk) (h.told j oj hj hl') hR
  rest := fun k hk => by
    have hne : o.dst ≠ some k := fun e => hk i (by simp) (by rw [ho]; exact e)
    rw [getD_put _ _ _ _ hne]
    exact h.rest k (fun j hj => hk j (by simp [hj]))
  closed := fun j o' d hj hl hd' => by
    by_cases e : j = i
    · subst e
      rw [ho] at hj; cases hj
      simp [hr d hd']
    · have hl' : L j = true := by simpa [e] using hl
      simp [h.closed j o' d hj hl' hd']
theorem any_gen (hac : acyc ops = true) (mono : Mono ops T R)
    (step : ∀ (L : Nat → Bool) (i : Nat) (o : Oper) (a : Act) (w : World), ops[i]? = some o → InvG ops G T a0 L a w → L i = false → (∀ d ∈ deps o, L d = true) →
      wpOp P ops Q i (fun a' w' => ∃ v, a' = a.put o.dst v ∧ T i (at_ (a.put o.dst v)) w' ∧ G w' ∧ R i w w') a w)
    (done : ∀ a w, InvG ops G T a0 (fun _ => true) a w → Q .normal a w) :
    ∀ (fuel : Nat) (listed : Array Bool) (a : Act) (w : World), listed.size = ops.size → left ops.size listed ≤ fuel → InvG ops G T a0 (fun j => listed.getD j false) a w → wpAny P .any ops Q fuel listed a w := by
  have fin : ∀ (listed : Array Bool) (a : Act) (w : World), listed.size = ops.size → Region.ready .any ops listed = [] → InvG ops G T a0 (fun j => listed.getD j false) a w → Q .normal a w := fun listed a w hs hr hI => by
    refine done a w ?_
    have hall := all_listed hac hr hs
    have hL : ∀ j o, ops[j]? = some o → listed.getD j false = true := fun j o hj => by
      have hjs : j < ops.size := by
        by_cases hl : j < ops.size
        · exact hl
        · have e : ops[j]? = none := by simp; omega
          rw [e] at hj; cases hj
      have := hall j hjs
      have hjl : j < listed.size := by omega
      simpa [Array.getD_eq_getD_getElem?, Array.getElem?_eq_getElem hjl] using this
    exact ⟨hI.g, hI.defers, hI.size, fun j o hj _ => hI.told j o hj (hL j o hj), fun k hk => hI.rest k (fun j hj => hk j rfl), fun _ _ _ _ _ _ => rfl⟩
  intro fuel
  induction fuel with
  | zero =>
    intro listed a w hs hf hI
    have hr : Region.ready .any ops listed = [] := by
      refine List.eq_nil_iff_forall_not_mem.2 fun i hi => ?_
      obtain ⟨h1, h2, _⟩ := mem_ready.1 hi
      have h0 : left ops.size listed = 0 := by omega
      have := (List.countP_eq_zero.1 h0) i (List.mem_range.2 h1)
      simp [h2] at this
    exact ⟨hr, fin listed a w hs hr hI⟩
  | succ fuel ih =>
    intro listed a w hs hf hI
    refine ⟨fun hr => fin listed a w hs hr hI, fun i hi => ?_⟩
    obtain ⟨h1, h2, o, ho, h3⟩ := mem_ready.1 hi
    have hil : i < listed.size := by omega
    have hLi : listed.getD i false = false := by
      simpa [Array.getD_eq_getD_getElem?, Array.getElem?_eq_getElem hil] using h2
    refine wpOp_mono ?_ (step (fun j => listed.getD j false) i o a w ho hI hLi h3)
    rintro a' w' ⟨v, rfl, hT, hG, hR⟩
    refine ih _ _ _ (by simpa using hs) ?_ ?_
    · have hlt : left ops.size (listed.setIfInBounds i true) < left ops.size listed := by
        refine countP_lt (x := i) (fun x hx => ?_) (List.mem_range.2 h1) (by simp [h2]) ?_
        · by_cases hxi : x = i
          · subst hxi; simp [h2]
          · simpa [Array.getD_eq_getD_getElem?, Array.getElem?_setIfInBounds, Ne.symm hxi] using hx
        · simp [Array.getD_eq_getD_getElem?, hil]
      omega
    · have hI' := hI.next mono ho hLi h3 hT hG hR
      have e : (fun j => (listed.setIfInBounds i true).getD j false) = fun j => listed.getD j false || j == i := by
        funext j
        by_cases hj : j = i
        · subst hj; simp [Array.getD_eq_getD_getElem?, hil]
        · simp [Array.getD_eq_getD_getElem?, Ne.symm hj, hj]
      rw [e]
      exact hI'
theorem region_gen {id : Nat} (hm : P.follows .mixedOrders = true) (hac : acyc ops = true) (G : World → Prop) (T : Nat → (Nat → Value) → World → Prop) (R : Nat → World → World → Prop)
    (mono : Mono ops T R) (hG : G w.drew)
    (step : ∀ (L : Nat → Bool) (i : Nat) (o : Oper) (a : Act) (w : World), ops[i]? = some o → InvG ops G T a0 L a w → L i = false → (∀ d ∈ deps o, L d = true) →
      wpOp P ops Q i (fun a' w' => ∃ v, a' = a.put o.dst v ∧ T i (at_ (a.put o.dst v)) w' ∧ G w' ∧ R i w w') a w)
    (done : ∀ a w, InvG ops G T a0 (fun _ => true) a w → Q .normal a w) : (Code.region id ops true).wp P Q a0 w := by
  have no : ∀ j, (Array.replicate ops.size false).getD j false = true → False := fun j hl => by
    by_cases hj : j < ops.size
    · simp [Array.getD_eq_getD_getElem?, hj] at hl
    · simp [Array.getD_eq_getD_getElem?, hj] at hl
  exact wp_region_any hm (any_gen hac mono step done ops.size _ a0 w.drew (by simp) (by
    refine Nat.le_trans List.countP_le_length ?_
    simp) ⟨hG, rfl, rfl, fun j o _ hl => (no j hl).elim, fun _ _ => rfl, fun j o d _ hl _ => (no j hl).elim⟩)
theorem InvG.get (h : InvG ops G T a0 L a w) (hr : ∀ d ∈ deps o, L d = true) (j : Nat) {oj : Oper} (hj : ops[j]? = some oj) (hd : (deps o).contains j = true) : T j (at_ a) w :=
  h.told j oj hj (hr j (by simpa using hd))
theorem InvG.old (h : InvG ops G T a0 L a w) (k : Nat) (hk : (ops.all fun o => o.dst != some k) = true) : a.tmps.getD k undef = a0.tmps.getD k undef :=
  h.rest k fun j _ e => by
    cases hj : ops[j]? with
    | none => simp [hj] at e
    | some o =>
      have h1 := (Array.all_eq_true_iff_forall_mem.1 hk) o (Array.mem_of_getElem? hj)
      simp [hj] at e
      simp [e] at h1
end
end Go.Proofs.Ytggfjghcgacdnaa.Reg
namespace Go.Proofs.Ytggfjghcgacdnaa.Mp
open Go.RowKit Base
set_option linter.unusedVariables false
set_option maxRecDepth 20000

def mget : List (Int × Int) → Int → Option Int
  | [], _ => none
  | (k, v) :: r, q => if q = k then some v else mget r q
def mput : List (Int × Int) → Int → Int → List (Int × Int)
  | [], q, n => [(q, n)]
  | (k, v) :: r, q, n => if q = k then (k, n) :: r else (k, v) :: mput r q n
def mdel : List (Int × Int) → Int → List (Int × Int)
  | [], _ => []
  | (k, v) :: r, q => if q = k then r else (k, v) :: mdel r q
theorem mget_mput : ∀ (L : List (Int × Int)) (q n x : Int), mget (mput L q n) x = if x = q then some n else mget L x
  | [], q, n, x => by simp [mput, mget]
  | (k, v) :: r, q, n, x => by
    by_cases h : q = k
    · subst h
      by_cases hx : x = q <;> simp [mput, mget, hx]
    · by_cases hx : x = k
      · have : ¬ x = q := by omega
        simp [mput, mget, h, hx]
        omega
      · simp [mput, mget, h, hx, mget_mput r q n x]
/-- The entry of a key: its place and its value. -/
def mfind : List (Int × Int) → Int → Nat → Option (Nat × Int)
  | [], _, _ => none
  | (k, v) :: r, q, i => if q = k then some (i, v) else mfind r q (i + 1)
def Ents (es : List MapEntry) (L : List (Int × Int)) : Prop := es.map (fun e => (e.key, e.val)) = L.map (fun x => (Value.int .i64 x.1, Value.int .i64 x.2))
theorem Ents.cons {e : MapEntry} {es : List MapEntry} {x : Int × Int} {L : List (Int × Int)} (h : Ents (e :: es) (x :: L)) : e.key = .int .i64 x.1 ∧ e.val = .int .i64 x.2 ∧ Ents es L := by
  simp only [Ents, List.map_cons, List.cons.injEq, Prod.mk.injEq] at h
  exact ⟨h.1.1, h.1.2, h.2⟩
theorem now_find : ∀ (es : List MapEntry) (L : List (Int × Int)) (q : Int) (i : Nat), Ents es L →
    Instr.findNow (.int .i64) (.int .i64 q) es i = some ((mfind L q i).map fun x => (x.1, Value.int .i64 x.2))
  | [], [], q, i, h => rfl
  | [], _ :: _, q, i, h => by simp [Ents] at h
  | _ :: _, [], q, i, h => by simp [Ents] at h
  | e :: es, (k, v) :: L, q, i, h => by
    obtain ⟨h1, h2, h3⟩ := h.cons
    unfold Instr.findNow
    rw [h1]
    by_cases hq : q = k
    · subst hq
      simp [Instr.sameNow, mfind, h2]
    · have hf : (q == k) = false := by simpa using hq
      simp [Instr.sameNow, mfind, hq, hf, now_find es L q (i + 1) h3]
theorem find_get : ∀ (L : List (Int × Int)) (q : Int) (i : Nat), (mfind L q i).map (·.2) = mget L q
  | [], q, i => rfl
  | (k, v) :: L, q, i => by
    by_cases hq : q = k <;> simp [mfind, mget, hq, find_get L q (i + 1)]
theorem find_none : ∀ (L : List (Int × Int)) (q : Int) (i : Nat), mfind L q i = none → (∀ n, mput L q n = L ++ [(q, n)]) ∧ mdel L q = L
  | [], q, i, _ => ⟨fun _ => rfl, rfl⟩
  | (k, v) :: L, q, i, h => by
    by_cases hq : q = k
    · simp [mfind, hq] at h
    · simp only [mfind, hq, if_false] at h
      have := find_none L q (i + 1) h
      simp [mput, mdel, hq, this]
theorem find_some : ∀ (L : List (Int × Int)) (q : Int) (i j : Nat) (v : Int), mfind L q i = some (j, v) →
    ∃ d, j = i + d ∧ L[d]? = some (q, v) ∧ (∀ n, mput L q n = L.modify d (fun _ => (q, n))) ∧ mdel L q = L.eraseIdx d
  | [], q, i, j, v, h => by simp [mfind] at h
  | (k, u) :: L, q, i, j, v, h => by
    by_cases hq : q = k
    · subst hq
      simp only [mfind, if_true, Option.some.injEq, Prod.mk.injEq] at h
      obtain ⟨rfl, rfl⟩ := h
      exact ⟨0, rfl, rfl, fun n => by simp [mput], by simp [mdel]⟩
    · simp only [mfind, hq, if_false] at h
      obtain ⟨d, rfl, h1, h2, h3⟩ := find_some L q (i + 1) j v h
      exact ⟨d + 1, by omega, by simpa using h1, fun n => by simp [mput, hq, h2], by simp [mdel, hq, h3]⟩
theorem Ents.at {es : List MapEntry} {L : List (Int × Int)} (h : Ents es L) {d : Nat} {x : Int × Int} (hx : L[d]? = some x) : ∃ e, es[d]? = some e ∧ e.key = .int .i64 x.1 := by
  have := congrArg (fun l => l[d]?) h
  simp only [List.getElem?_map, hx, Option.map_some] at this
  cases he : es[d]? with
  | none => simp [he] at this
  | some e =>
    simp only [he, Option.map_some, Option.some.injEq, Prod.mk.injEq] at this
    exact ⟨e, rfl, this.1⟩

/-- The map at block b has these entries. -/
def MapAt (w : World) (b : Nat) (L : List (Int × Int)) : Prop := ∃ es clock, w.heap[b]? = some (.map es clock) ∧ Ents es.toList L
theorem MapAt.lt {w : World} {b : Nat} {L : List (Int × Int)} (h : MapAt w b L) : b < w.heap.size := by
  obtain ⟨es, c, h, _⟩ := h
  exact (Array.getElem?_eq_some_iff.1 h).1
theorem MapAt.keep {w w' : World} {b : Nat} {L : List (Int × Int)} (h : MapAt w b L) (hk : w'.heap[b]? = w.heap[b]?) : MapAt w' b L := by
  obtain ⟨es, c, h, h2⟩ := h
  exact ⟨es, c, hk.trans h, h2⟩
theorem MapAt.below {w w' : World} {b : Nat} {L : List (Int × Int)} (h : MapAt w b L) (hb : Below w.heap.size w w') : MapAt w' b L := h.keep (hb.block b h.lt)
theorem MapAt.drewN {w : World} {b : Nat} {L : List (Int × Int)} (h : MapAt w b L) (n : Nat) : MapAt (w.drewN n) b L := h.keep rfl
theorem MapAt.onto {w w' : World} {b p : Nat} {L : List (Int × Int)} (h : MapAt w b L) (ho : Onto p w w') (hp : b ≠ p) : MapAt w' b L := h.keep (ho.block b hp h.lt)
theorem MapAt.new (w : World) : MapAt (w.alloc (.map #[] 0)) w.heap.size [] := ⟨#[], 0, heap_alloc_new _ _, rfl⟩
def setB (w : World) (b : Nat) (o : Obj) : World := { w with heap := w.heap.setIfInBounds b o }
theorem onto_setB (w : World) (b : Nat) (o : Obj) : Onto b w (setB w b o) :=
  ⟨rfl, rfl, rfl, by simp [setB], fun k hk _ => by simp [setB, Array.getElem?_setIfInBounds]; intro e; omega⟩
theorem size_setB (w : World) (b : Nat) (o : Obj) : (setB w b o).heap.size = w.heap.size := by simp [setB]
theorem setB_at {w : World} {b : Nat} (o : Obj) (hb : b < w.heap.size) : (setB w b o).heap[b]? = some o := by simp [setB, hb]
section
variable {P : Program} {w : World} {b : Nat} {L : List (Int × Int)} {t k e : TypeId}
theorem run_und {x : TypeId} {d : TypeDesc} (h : P.underlying x = some d) : (underlying x).run P w = .ok d w := by
  simp [underlying, h]
theorem run_check (hk : P.underlying k = some (.int .i64)) (q : Int) (em : Bool) : (Instr.checkKey em 10000 k (.int .i64 q)).run P w = .ok () w := by
  unfold Instr.checkKey
  simp [run_und hk]
theorem run_find (hk : P.underlying k = some (.int .i64)) {es : List MapEntry} (h : Ents es L) (q : Int) : (Instr.findKey k (.int .i64 q) es).run P w = .ok ((mfind L q 0).map fun x => (x.1, Value.int .i64 x.2)) w := by
  simp [Instr.findKey, run_und hk, now_find es L q 0 h]
theorem run_get (ht : P.underlying t = some (.map k e)) (hk : P.underlying k = some (.int .i64)) (hz : (zeroValue e).run P w = .ok (.int .i64 0) w) (h : MapAt w b L) (q : Int) :
    (Instr.lookup t (.map (some b)) (.int .i64 q) false).run P w = .ok (.int .i64 ((mget L q).getD 0)) w ∧
    (Instr.lookup t (.map (some b)) (.int .i64 q) true).run P w = .ok (.tuple #[.int .i64 ((mget L q).getD 0), .bool (mget L q).isSome]) w := by
  obtain ⟨es, c, hb, hE⟩ := h
  rw [← find_get L q 0]
  have hf := run_find (w := w) hk hE q
  cases hm : mfind L q 0 with
  | none =>
    rw [hm] at hf
    constructor <;> simp [Instr.lookup, run_und ht, MapKept.run_getObj_map hb, run_check hk, hf, hz, Result.andThen]
  | some x =>
    rw [hm] at hf
    constructor <;> simp [Instr.lookup, run_und ht, MapKept.run_getObj_map hb, run_check hk, hf, Result.andThen]
theorem stays (q : Int) : (Instr.keyThatStays (.int .i64 q) (.int .i64 q)).run P w = .ok (.int .i64 q) w := by
  simp [Instr.keyThatStays, Instr.sameBits]
theorem run_put (ht : P.underlying t = some (.map k e)) (hk : P.underlying k = some (.int .i64)) (h : MapAt w b L) (q n : Int) :
    ∃ w', (Instr.mapUpdate t (.map (some b)) (.int .i64 q) (.int .i64 n)).run P w = .ok () w' ∧ MapAt w' b (mput L q n) ∧ Onto b w w' ∧ w'.heap.size = w.heap.size := by
  have hlt := h.lt
  obtain ⟨es, c, hb, hE⟩ := h
  have hf := run_find (w := w) hk hE q
  cases hm : mfind L q 0 with
  | none =>
    rw [hm] at hf
    refine ⟨setB w b (.map (es.push { key := .int .i64 q, val := .int .i64 n, born := c }) (c + 1)), ?_, ⟨_, _, setB_at _ hlt, ?_⟩, onto_setB _ _ _, size_setB _ _ _⟩
    · simp [Instr.mapUpdate, run_und ht, MapKept.run_getObj_map hb, run_check hk, hf, MapKept.run_setObj_map _ hb, Result.andThen, setB]
    · rw [(find_none L q 0 hm).1]
      unfold Ents at hE ⊢
      simp [hE]
  | some x =>
    obtain ⟨j, v⟩ := x
    rw [hm] at hf
    obtain ⟨d, hj, h1, h2, _⟩ := find_some L q 0 j v hm
    obtain rfl : j = d := by omega
    obtain ⟨ent, he, hek⟩ := hE.at h1
    have he' : es[j]? = some ent := by rw [← Array.getElem?_toList]; exact he
    refine ⟨setB w b (.map (es.modify j fun y => { y with key := .int .i64 q, val := .int .i64 n }) c), ?_, ⟨_, _, setB_at _ hlt, ?_⟩, onto_setB _ _ _, size_setB _ _ _⟩
    · have hs := stays (P := P) (w := w) q
      simp only at hek
      simp [Instr.mapUpdate, run_und ht, MapKept.run_getObj_map hb, run_check hk, hf, he', hek, hs, MapKept.run_setObj_map _ hb, Result.andThen, setB]
    · rw [h2]
      unfold Ents at hE ⊢
      rw [Array.toList_modify]
      refine List.ext_getElem? fun i => ?_
      have hi := congrArg (fun l => l[i]?) hE
      simp only [List.getElem?_map, List.getElem?_modify] at hi ⊢
      by_cases hji : j = i
      · subst hji
        simp [he, h1]
      · simpa [hji] using hi
theorem run_del {ty : TypeId} (ht : P.underlying t = some (.map k e)) (hk : P.underlying k = some (.int .i64)) (h : MapAt w b L) (q : Int) :
    ∃ w', (Builtin.delete_ #[t, k] ty #[.map (some b), .int .i64 q]).run P w = .ok (.tuple #[]) w' ∧ MapAt w' b (mdel L q) ∧ Onto b w w' ∧ w'.heap.size = w.heap.size := by
  have hlt := h.lt
  obtain ⟨es, c, hb, hE⟩ := h
  have hf := run_find (w := w) hk hE q
  cases hm : mfind L q 0 with
  | none =>
    rw [hm] at hf
    refine ⟨setB w b (.map es c), ?_, ⟨_, _, setB_at _ hlt, ?_⟩, onto_setB _ _ _, size_setB _ _ _⟩
    · simp [Builtin.delete_, run_und ht, MapKept.run_getObj_map hb, run_check hk, hf, MapKept.run_setObj_map _ hb, Result.andThen, setB]
    · rw [(find_none L q 0 hm).2]; exact hE
  | some x =>
    obtain ⟨j, v⟩ := x
    rw [hm] at hf
    obtain ⟨d, hj, h1, _, h3⟩ := find_some L q 0 j v hm
    obtain rfl : j = d := by omega
    obtain ⟨ent, he, hek⟩ := hE.at h1
    have hjl : j < es.size := by
      have := (List.getElem?_eq_some_iff.1 he).1
      simpa using this
    refine ⟨setB w b (.map (es.eraseIdxIfInBounds j) c), ?_, ⟨_, _, setB_at _ hlt, ?_⟩, onto_setB _ _ _, size_setB _ _ _⟩
    · simp [Builtin.delete_, run_und ht, MapKept.run_getObj_map hb, run_check hk, hf, MapKept.run_setObj_map _ hb, Result.andThen, setB]
    · rw [h3]
      unfold Ents at hE ⊢
      unfold Array.eraseIdxIfInBounds
      rw [dif_pos hjl]
      simp only [Array.toList_eraseIdx]
      refine List.ext_getElem? fun i => ?_
      have hi := fun i : Nat => congrArg (fun l => l[i]?) hE
      simp only [List.getElem?_map] at hi
      simp only [List.getElem?_map, List.getElem?_eraseIdx]
      split <;> exact hi _
end
end Go.Proofs.Ytggfjghcgacdnaa.Mp
namespace Go.Proofs.Ytggfjghcgacdnaa.Reg
open Go.RowKit Base Mp Rw
set_option linter.unusedVariables false
set_option maxRecDepth 20000

/-- Each slot that is spoken of is filled by the operation itself, by one for which it waits, or by none. -/
def supOk (ops : Array Oper) (S : List (List Nat)) : Bool := (List.range ops.size).all fun j => (S.getD j []).all fun s => (List.range ops.size).all fun i =>
  (ops[i]?).bind (·.dst) != some s || i == j || (match ops[j]? with | some o => (deps o).contains i | none => true)
section
variable {ops : Array Oper} {T : Nat → (Nat → Value) → World → Prop} {R : Nat → World → World → Prop} {S : List (List Nat)}
theorem mono_sup (hS : supOk ops S = true) (hK : ∀ j f f' w, (∀ s ∈ S.getD j [], f' s = f s) → T j f w → T j f' w) (hR : ∀ i j f w w', i ≠ j → T j f w → R i w w' → T j f w') : Mono ops T R := by
  intro L i j oi oj f f' w w' hi hj hLi hLj hdep hf hT hRi
  have hne : i ≠ j := fun e => by rw [e, hLj] at hLi; cases hLi
  have hil : i < ops.size := by
    by_cases hl : i < ops.size
    · exact hl
    · have e : ops[i]? = none := by simp; omega
      rw [e] at hi; cases hi
  have hjl : j < ops.size := by
    by_cases hl : j < ops.size
    · exact hl
    · have e : ops[j]? = none := by simp; omega
      rw [e] at hj; cases hj
  refine hR i j f' w w' hne (hK j f f' w (fun s hs => hf s fun e => ?_) hT) hRi
  have h1 := List.all_eq_true.1 (List.all_eq_true.1 (List.all_eq_true.1 hS j (List.mem_range.2 hjl)) s hs) i (List.mem_range.2 hil)
  rw [hi, hj] at h1
  simp only [Option.bind_some, e, bne_self_eq_false, Bool.false_or, Bool.or_eq_true, beq_iff_eq] at h1
  rcases h1 with h1 | h1
  · exact hne h1
  · have := hdep i (List.contains_iff_mem.1 h1)
    rw [hLi] at this; cases this
end

/-- A map of the call's own, its keys from 240 to 248, each once. -/
structure Nice (L : List (Int × Int)) : Prop where
  one : (L.map Prod.fst).Nodup
  range : ∀ x v, mget L x = some v → 240 ≤ x ∧ x ≤ 248
theorem mput_keys : ∀ (L : List (Int × Int)) (q n x : Int), x ∈ (mput L q n).map Prod.fst ↔ x = q ∨ x ∈ L.map Prod.fst
  | [], q, n, x => by simp [mput]
  | (k, v) :: r, q, n, x => by
    by_cases h : q = k
    · subst h; simp [mput]
    · simp only [mput, h, if_false, List.map_cons, List.mem_cons, mput_keys r q n x]
      constructor
      · rintro (h | h | h) <;> simp [h]
      · rintro (h | h | h) <;> simp [h]
theorem mput_one : ∀ (L : List (Int × Int)) (q n : Int), (L.map Prod.fst).Nodup → ((mput L q n).map Prod.fst).Nodup
  | [], q, n, _ => by simp [mput]
  | (k, v) :: r, q, n, h => by
    by_cases hq : q = k
    · subst hq; simpa [mput] using h
    · simp only [List.map_cons, List.nodup_cons] at h
      simp only [mput, hq, if_false, List.map_cons, List.nodup_cons]
      refine ⟨fun hm => ?_, mput_one r q n h.2⟩
      rcases (mput_keys r q n k).1 hm with e | e
      · exact hq e.symm
      · exact h.1 e
theorem mget_none : ∀ (L : List (Int × Int)) (x : Int), x ∉ L.map Prod.fst → mget L x = none
  | [], x, _ => rfl
  | (k, v) :: r, x, h => by
    simp only [List.map_cons, List.mem_cons, not_or] at h
    simp [mget, h.1, mget_none r x h.2]
theorem mget_mdel : ∀ (L : List (Int × Int)) (q x : Int), (L.map Prod.fst).Nodup → mget (mdel L q) x = if x = q then none else mget L x
  | [], q, x, _ => by simp [mdel, mget]
  | (k, v) :: r, q, x, h => by
    simp only [List.map_cons, List.nodup_cons] at h
    by_cases hq : q = k
    · subst hq
      by_cases hx : x = q
      · subst hx; simp [mdel, mget_none r x h.1]
      · simp [mdel, mget, hx]
    · by_cases hx : x = k
      · subst hx
        have : ¬ x = q := fun e => hq e.symm
        simp [mdel, mget, hq, this]
      · simp [mdel, mget, hq, hx, mget_mdel r q x h.2]
theorem Nice.nil : Nice [] := ⟨by simp, fun x v h => by simp [mget] at h⟩
theorem Nice.put {L : List (Int × Int)} (h : Nice L) {q : Int} (n : Int) (hq : 240 ≤ q ∧ q ≤ 248) : Nice (mput L q n) :=
  ⟨mput_one L q n h.one, fun x v hx => by
    rw [mget_mput] at hx
    split at hx
    · omega
    · exact h.range x v hx⟩
theorem ents_one : ∀ (L L' : List (Int × Int)), L.map (fun x => (Value.int .i64 x.1, Value.int .i64 x.2)) = L'.map (fun x => (Value.int .i64 x.1, Value.int .i64 x.2)) → L = L'
  | [], [], _ => rfl
  | [], _ :: _, h => by simp at h
  | _ :: _, [], h => by simp at h
  | (a, b) :: L, (a', b') :: L', h => by
    simp only [List.map_cons, List.cons.injEq, Prod.mk.injEq, Value.int.injEq, true_and] at h
    obtain ⟨⟨rfl, rfl⟩, h⟩ := h
    rw [ents_one L L' h]
theorem mapAt_one {w : World} {b : Nat} {L L' : List (Int × Int)} (h : MapAt w b L) (h' : MapAt w b L') : L = L' := by
  obtain ⟨es, c, h1, h2⟩ := h
  obtain ⟨es', c', h1', h2'⟩ := h'
  rw [h1] at h1'
  simp only [Option.some.injEq, Obj.map.injEq] at h1'
  obtain ⟨rfl, rfl⟩ := h1'
  exact ents_one _ _ (h2.symm.trans h2')

/-- What is told of an operation of such a region (slot 3 holds the map). -/
abbrev Tk : Type := (Nat × Value) ⊕ Unit ⊕ (Int × Int) ⊕ (Nat × Nat)
def Tk.val (k : Nat) (v : Value) : Tk := .inl (k, v)
def Tk.new : Tk := .inr (.inl ())
def Tk.ins (q x : Int) : Tk := .inr (.inr (.inl (q, x)))
def Tk.same (k k' : Nat) : Tk := .inr (.inr (.inr (k, k')))
def Tk.says (g : Nat) (f : Nat → Value) (w : World) : Tk → Prop
  | .inl (k, v) => f k = v
  | .inr (.inl _) => ∃ b L, f 3 = .map (some b) ∧ g < b ∧ MapAt w b L ∧ Nice L
  | .inr (.inr (.inl (q, x))) => ∃ b L, f 3 = .map (some b) ∧ MapAt w b L ∧ Nice L ∧ mget L q = some x
  | .inr (.inr (.inr (k, k'))) => f k = f k'
def Tk.sup : Tk → List Nat
  | .inl (k, _) => [k]
  | .inr (.inl _) => [3]
  | .inr (.inr (.inl _)) => [3]
  | .inr (.inr (.inr (k, k'))) => [k, k']
def Tk.key : Tk → Int
  | .inr (.inr (.inl (q, _))) => q
  | _ => -1
def told (g : Nat) (l : List Tk) (j : Nat) (f : Nat → Value) (w : World) : Prop := match l[j]? with
  | some t => t.says g f w
  | none => True
/-- Behind a step every such map has at most one other entry, that of the key q. -/
def Rq (q : Int) (w w' : World) : Prop := ∀ b L, MapAt w b L → Nice L → ∃ L', MapAt w' b L' ∧ Nice L' ∧ ∀ x, x ≠ q → mget L' x = mget L x
theorem Rq.below {q : Int} {w w' : World} (h : Below w.heap.size w w') : Rq q w w' := fun b L hm hn => ⟨L, hm.below h, hn, fun _ _ => rfl⟩
theorem Rq.refl (q : Int) (w : World) : Rq q w w := fun b L hm hn => ⟨L, hm, hn, fun _ _ => rfl⟩
theorem Rq.put {q n : Int} {w w' : World} {b : Nat} {L : List (Int × Int)} (hm : MapAt w b L) (hm' : MapAt w' b (mput L q n)) (ho : Onto b w w') (hq : 240 ≤ q ∧ q ≤ 248) : Rq q w w' := fun b' L' hb' hn' => by
  by_cases e : b' = b
  · subst e
    obtain rfl := mapAt_one hm hb'
    exact ⟨_, hm', hn'.put n hq, fun x hx => by rw [mget_mput, if_neg hx]⟩
  · exact ⟨L', hb'.onto ho e, hn', fun _ _ => rfl⟩
def apart (l : List Int) : Bool := (List.range l.length).all fun i => (List.range l.length).all fun j => i == j || l.getD j (-1) == -1 || l.getD i (-1) != l.getD j (-1)
theorem told_mono {ops : Array Oper} {g : Nat} {l : List Tk} {ks : List Int} (hks : l.map Tk.key = ks) (hap : apart ks = true) (hS : supOk ops (l.map Tk.sup) = true) (hpos : ∀ q x, Tk.ins q x ∈ l → 240 ≤ q) (hlen : l.length = ops.size) :
    Mono ops (told g l) (fun i => Rq (ks.getD i (-1))) := by
  refine mono_sup hS (fun j f f' w hf hT => ?_) (fun i j f w w' hij hT hR => ?_)
  · unfold told at *
    cases e : l[j]? with
    | none => trivial
    | some t =>
      rw [e] at hT
      have hs : (l.map Tk.sup).getD j [] = t.sup := by simp [e]
      rw [hs] at hf
      rcases t with ⟨k, v⟩ | ⟨⟩ | ⟨q, x⟩ | ⟨k, k'⟩
      · exact (hf k (by simp [Tk.sup])).trans hT
      · obtain ⟨b, L, h1, h2⟩ := hT; exact ⟨b, L, (hf 3 (by simp [Tk.sup])).trans h1, h2⟩
      · obtain ⟨b, L, h1, h2⟩ := hT; exact ⟨b, L, (hf 3 (by simp [Tk.sup])).trans h1, h2⟩
      · exact ((hf k (by simp [Tk.sup])).trans hT).trans (hf k' (by simp [Tk.sup])).symm
  · unfold told at *
    cases e : l[j]? with
    | none => trivial
    | some t =>
      rw [e] at hT
      rcases t with ⟨k, v⟩ | ⟨⟩ | ⟨q, x⟩ | ⟨k, k'⟩
      · exact hT
      · obtain ⟨b, L, h1, h2, h3, h4⟩ := hT
        obtain ⟨L', m', n', _⟩ := hR b L h3 h4
        exact ⟨b, L', h1, h2, m', n'⟩
      · obtain ⟨b, L, h1, h3, h4, h5⟩ := hT
        obtain ⟨L', m', n', hx⟩ := hR b L h3 h4
        refine ⟨b, L', h1, m', n', ?_⟩
        rw [hx q, h5]
        have hj : ks.getD j (-1) = q := by rw [← hks]; simp [e, Tk.key]
        have hjl : j < ks.length := by
          rw [← hks, List.length_map]
          exact (List.getElem?_eq_some_iff.1 e).1
        have hq := hpos q x (List.mem_of_getElem? e)
        by_cases hil : i < ks.length
        · have h1 := List.all_eq_true.1 (List.all_eq_true.1 hap i (List.mem_range.2 hil)) j (List.mem_range.2 hjl)
          simp only [Bool.or_eq_true, beq_iff_eq, bne_iff_ne, hj] at h1
          rcases h1 with (h1 | h1) | h1
          · exact absurd h1 hij
          · omega
          · exact fun e => h1 e.symm
        · have : ks.getD i (-1) = -1 := by simp [List.getD_eq_getElem?_getD, List.getElem?_eq_none (by omega : ks.length ≤ i)]
          rw [this]; omega
      · exact hT
section
variable {P : Program} {Q : Exit → Act → World → Prop} {a : Act} {o : Oper} {w : World} {K : Act → World → Prop}
theorem makeMap_op {t : TypeId} (ho : o.op = .makeMap t none) (h : K (a.put o.dst (.map (some w.heap.size))) (w.alloc (.map #[] 0))) : o.wp P a w K Q := by
  have e : (Instr.makeMap t none).run P w = .ok (.map (some w.heap.size)) (w.alloc (.map #[] 0)) := rfl
  unfold Oper.wp execOp
  simp only [ho, Option.map_none, Sem.run_bind, Result.andThen_ok, e]
  exact h
theorem insert_op {t k e : TypeId} {m kx x : Operand} {b : Nat} {q n : Int} {L : List (Int × Int)} (ho : o.op = .insert t m kx x) (ht : P.underlying t = some (.map k e)) (hk : P.underlying k = some (.int .i64))
    (hm : a.eval m = .map (some b)) (hq : a.eval kx = .int .i64 q) (hx : a.eval x = .int .i64 n) (hM : MapAt w b L)
    (h : ∀ w', MapAt w' b (mput L q n) → Onto b w w' → K (a.put o.dst undef) w') : o.wp P a w K Q := by
  obtain ⟨w', hr, h1, h2, h3⟩ := run_put (P := P) ht hk hM q n
  unfold Oper.wp execOp
  simp only [ho, hm, hq, hx, Sem.run_bind, Result.andThen_ok, hr]
  exact h _ h1 h2
/-- A field's address, of a block. -/
theorem field_op {v : Value} (he : (execOp a.eval o).run P w = .ok (.value v) w) (h : K (a.put o.dst v) w) : o.wp P a w K Q := by
  unfold Oper.wp
  rw [he]
  exact h
end
end Go.Proofs.Ytggfjghcgacdnaa.Reg
namespace Go.Proofs.Ytggfjghcgacdnaa.Reg
open Go.RowKit Base
set_option linter.unusedVariables false
set_option maxRecDepth 20000

/-- What is told of an operation bears that another one comes for which it does not wait. -/
def MonoF (ops : Array Oper) (T : Nat → (Nat → Value) → World → Prop) (R : Nat → (Nat → Value) → World → World → Prop) : Prop :=
  ∀ (L : Nat → Bool) (i j : Nat) (oi oj : Oper) (f f' : Nat → Value) (w w' : World), ops[i]? = some oi → ops[j]? = some oj → L i = false → L j = true → (∀ d ∈ deps oj, L d = true) →
    (∀ k, oi.dst ≠ some k → f' k = f k) → T j f w → R i f' w w' → T j f' w'

section
variable {P : Program} {ops : Array Oper} {Q : Exit → Act → World → Prop} {G : World → Prop} {T : Nat → (Nat → Value) → World → Prop} {R : Nat → (Nat → Value) → World → World → Prop} {a0 a : Act} {L : Nat → Bool} {w w' : World} {i : Nat} {o : Oper} {v : Value}
theorem InvG.nextF (h : InvG ops G T a0 L a w) (mono : MonoF ops T R) (ho : ops[i]? = some o) (hL : L i = false)
    (hr : ∀ d ∈ deps o, L d = true) (hT : T i (at_ (a.put o.dst v)) w') (hG : G w') (hR : R i (at_ (a.put o.dst v)) w w') : InvG ops G T a0 (fun j => L j || j == i) (a.put o.dst v) w' where
  g := hG
  defers := (put_defers _ _ _).trans h.defers
  size := (put_size _ _ _).trans h.size
  told := fun j oj hj hl => by
    by_cases hji : j = i
    · subst hji; exact hT
    · have hl' : L j = true := by simpa [hji] using hl
      exact mono L i j o oj (at_ a) _ w w' ho hj hL hl' (fun d hd => h.closed j oj d hj hl' hd) (fun k hk => getD_put _ _ _ _ hk) (h.told j oj hj hl') hR
  rest := fun k hk => by
    have hne : o.dst ≠ some k := fun e => hk i (by simp) (by rw [ho]; exact e)
    rw [getD_put _ _ _ _ hne]
    exact h.rest k (fun j hj => hk j (by simp [hj]))
  closed := fun j o' d hj hl hd' => by
    by_cases e : j = i
    · subst e
      rw [ho] at hj; cases hj
      simp [hr d hd']
    · have hl' : L j = true := by simpa [e] using hl
      simp [h.closed j o' d hj hl' hd']
theorem any_genF (hac : acyc ops = true) (mono : MonoF ops T R)
    (step : ∀ (L : Nat → Bool) (i : Nat) (o : Oper) (a : Act) (w : World), ops[i]? = some o → InvG ops G T a0 L a w → L i = false → (∀ d ∈ deps o, L d = true) →
      wpOp P ops Q i (fun a' w' => ∃ v, a' = a.put o.dst v ∧ T i (at_ (a.put o.dst v)) w' ∧ G w' ∧ R i (at_ (a.put o.dst v)) w w') a w)
    (done : ∀ a w, InvG ops G T a0 (fun _ => true) a w → Q .normal a w) :
    ∀ (fuel : Nat) (listed : Array Bool) (a : Act) (w : World), listed.size = ops.size → left ops.size listed ≤ fuel → InvG ops G T a0 (fun j => listed.getD j false) a w → wpAny P .any ops Q fuel listed a w := by
  have fin : ∀ (listed : Array Bool) (a : Act) (w : World), listed.size = ops.size → Region.ready .any ops listed = [] → InvG ops G T a0 (fun j => listed.getD j false) a w → Q .normal a w := fun listed a w hs hr hI => by
    refine done a w ?_
    have hall := all_listed hac hr hs
    have hL : ∀ j o, ops[j]? = some o → listed.getD j false = true := fun j o hj => by
      have hjs : j < ops.size := by
        by_cases hl : j < ops.size
        · exact hl
        · have e : ops[j]? = none := by simp; omega
          rw [e] at hj; cases hj
      have := hall j hjs
      have hjl : j < listed.size := by omega
      simpa [Array.getD_eq_getD_getElem?, Array.getElem?_eq_getElem hjl] using this
    exact ⟨hI.g, hI.defers, hI.size, fun j o hj _ => hI.told j o hj (hL j o hj), fun k hk => hI.rest k (fun j hj => hk j rfl), fun _ _ _ _ _ _ => rfl⟩
  intro fuel
  induction fuel with
  | zero =>
    intro listed a w hs hf hI
    have hr : Region.ready .any ops listed = [] := by
      refine List.eq_nil_iff_forall_not_mem.2 fun i hi => ?_
      obtain ⟨h1, h2, _⟩ := mem_ready.1 hi
      have h0 : left ops.size listed = 0 := by omega
      have := (List.countP_eq_zero.1 h0) i (List.mem_range.2 h1)
      simp [h2] at this
    exact ⟨hr, fin listed a w hs hr hI⟩
  | succ fuel ih =>
    intro listed a w hs hf hI
    refine ⟨fun hr => fin listed a w hs hr hI, fun i hi => ?_⟩
    obtain ⟨h1, h2, o, ho, h3⟩ := mem_ready.1 hi
    have hil : i < listed.size := by omega
    have hLi : listed.getD i false = false := by
      simpa [Array.getD_eq_getD_getElem?, Array.getElem?_eq_getElem hil] using h2
    refine wpOp_mono ?_ (step (fun j => listed.getD j false) i o a w ho hI hLi h3)
    rintro a' w' ⟨v, rfl, hT, hG, hR⟩
    refine ih _ _ _ (by simpa using hs) ?_ ?_
    · have hlt : left ops.size (listed.setIfInBounds i true) < left ops.size listed := by
        refine countP_lt (x := i) (fun x hx => ?_) (List.mem_range.2 h1) (by simp [h2]) ?_
        · by_cases hxi : x = i
          · subst hxi; simp [h2]
          · simpa [Array.getD_eq_getD_getElem?, Array.getElem?_setIfInBounds, Ne.symm hxi] using hx
        · simp [Array.getD_eq_getD_getElem?, hil]
      omega
    · have hI' := hI.nextF mono ho hLi h3 hT hG hR
      have e : (fun j => (listed.setIfInBounds i true).getD j false) = fun j => listed.getD j false || j == i := by
        funext j
        by_cases hj : j = i
        · subst hj; simp [Array.getD_eq_getD_getElem?, hil]
        · simp [Array.getD_eq_getD_getElem?, Ne.symm hj, hj]
      rw [e]
      exact hI'
theorem region_genF {id : Nat} (hm : P.follows .mixedOrders = true) (hac : acyc ops = true) (G : World → Prop) (T : Nat → (Nat → Value) → World → Prop) (R : Nat → (Nat → Value) → World → World → Prop)
    (mono : MonoF ops T R) (hG : G w.drew)
    (step : ∀ (L : Nat → Bool) (i : Nat) (o : Oper) (a : Act) (w : World), ops[i]? = some o → InvG ops G T a0 L a w → L i = false → (∀ d ∈ deps o, L d = true) →
      wpOp P ops Q i (fun a' w' => ∃ v, a' = a.put o.dst v ∧ T i (at_ (a.put o.dst v)) w' ∧ G w' ∧ R i (at_ (a.put o.dst v)) w w') a w)
    (done : ∀ a w, InvG ops G T a0 (fun _ => true) a w → Q .normal a w) : (Code.region id ops true).wp P Q a0 w := by
  have no : ∀ j, (Array.replicate ops.size false).getD j false = true → False := fun j hl => by
    by_cases hj : j < ops.size
    · simp [Array.getD_eq_getD_getElem?, hj] at hl
    · simp [Array.getD_eq_getD_getElem?, hj] at hl
  exact wp_region_any hm (any_genF hac mono step done ops.size _ a0 w.drew (by simp) (by
    refine Nat.le_trans List.countP_le_length ?_
    simp) ⟨hG, rfl, rfl, fun j o _ hl => (no j hl).elim, fun _ _ => rfl, fun j o d _ hl _ => (no j hl).elim⟩)
end
/-- Slots of whose filling R tells enough (X) beside those that are filled already. -/
def supOkX (ops : Array Oper) (S : List (List Nat)) (X : Nat → Nat → Bool) : Bool := (List.range ops.size).all fun j => (S.getD j []).all fun s => (List.range ops.size).all fun i =>
  (ops[i]?).bind (·.dst) != some s || i == j || X i j || (match ops[j]? with | some o => (deps o).contains i | none => true)
section
variable {ops : Array Oper} {T : Nat → (Nat → Value) → World → Prop} {R : Nat → (Nat → Value) → World → World → Prop} {S : List (List Nat)} {X : Nat → Nat → Bool}
theorem mono_supF (hS : supOkX ops S X = true) (hK : ∀ i j f f' w w', i ≠ j → X i j = false → (∀ s ∈ S.getD j [], f' s = f s) → T j f w → R i f' w w' → T j f' w')
    (hX : ∀ i j f f' w w' oi, i ≠ j → X i j = true → ops[i]? = some oi → (∀ k, oi.dst ≠ some k → f' k = f k) → T j f w → R i f' w w' → T j f' w') : MonoF ops T R := by
  intro L i j oi oj f f' w w' hi hj hLi hLj hdep hf hT hRi
  have hne : i ≠ j := fun e => by rw [e, hLj] at hLi; cases hLi
  have hil : i < ops.size := by
    by_cases hl : i < ops.size
    · exact hl
    · have e : ops[i]? = none := by simp; omega
      rw [e] at hi; cases hi
  have hjl : j < ops.size := by
    by_cases hl : j < ops.size
    · exact hl
    · have e : ops[j]? = none := by simp; omega
      rw [e] at hj; cases hj
  cases hx : X i j
  · refine hK i j f f' w w' hne hx (fun s hs => hf s fun e => ?_) hT hRi
    have h1 := List.all_eq_true.1 (List.all_eq_true.1 (List.all_eq_true.1 hS j (List.mem_range.2 hjl)) s hs) i (List.mem_range.2 hil)
    rw [hi, hj] at h1
    simp only [Option.bind_some, e, bne_self_eq_false, Bool.false_or, Bool.or_eq_true, beq_iff_eq, hx, Bool.false_eq_true, or_false] at h1
    rcases h1 with h1 | h1
    · exact hne h1
    · have := hdep i (List.contains_iff_mem.1 h1)
      rw [hLi] at this; cases this
  · exact hX i j f f' w w' oi hne hx hi hf hT hRi
end
section
variable {P : Program} {Q : Exit → Act → World → Prop} {a : Act} {o : Oper} {w : World} {K : Act → World → Prop}
theorem wp_make {t e : TypeId} {i : TypeInfo} {z : Value} {size : Nat} (l c : Operand) (hop : o.op = Op.makeSlice t l c) (base : Nat) (h1 : P.underlying t = some (.slice e)) (h2 : P.info? e = some i) (h3 : i.zero = some z) (h4 : i.size = size)
    (kl kc : IntKind) (n : Nat) (hl : a.eval l = .int kl (n : Int)) (hc : a.eval c = .int kc (n : Int)) (b2 : i.bytes * n ≤ 281474976710656) (b3 : n ≤ maxLen) (b4 : base ≤ w.heap.size)
    (hK : ∀ w', w'.ownsRow base e size (.slice (some ⟨w.heap.size, 0, none⟩) n n) n (madeCells z.cells (n * size)).toList → w.grownBy w' none → K (a.put o.dst (.slice (some ⟨w.heap.size, 0, none⟩) n n)) w') : o.wp P a w K Q := by
  obtain ⟨w', hrun, r1, r2⟩ := run_make_full (P := P) w base t e i z size h1 h2 h3 h4 kl kc n b2 b3 b4
  unfold Oper.wp
  simp [execOp, hop, hl, hc, hrun, Result.andThen]
  exact hK w' r1 r2
end
end Go.Proofs.Ytggfjghcgacdnaa.Reg
namespace Go.Proofs.Ytggfjghcgacdnaa.Reg
open Go.RowKit Base
set_option linter.unusedVariables false
set_option maxRecDepth 20000

/-- Some operations have come (L): what is told of each holds of the slots and the world; all else is as it was. -/
structure InvS (ops : Array Oper) (s : Nat) (G : Bool → World → Prop) (T : Nat → (Nat → Value) → World → Prop) (a0 : Act) (L : Nat → Bool) (a : Act) (w : World) : Prop where
  g : G (L s) w
  defers : a.defers = a0.defers
  size : a.tmps.size = a0.tmps.size
  told : ∀ j o, ops[j]? = some o → L j = true → T j (at_ a) w
  rest : ∀ k, (∀ j, L j = true → (ops[j]?).bind (·.dst) ≠ some k) → a.tmps.getD k undef = a0.tmps.getD k undef
  closed : ∀ j o d, ops[j]? = some o → L j = true → d ∈ deps o → L d = true
section
variable {P : Program} {ops : Array Oper} {Q : Exit → Act → World → Prop} {s : Nat} {G : Bool → World → Prop} {T : Nat → (Nat → Value) → World → Prop} {R : Nat → (Nat → Value) → World → World → Prop} {a0 a : Act} {L : Nat → Bool} {w w' : World} {i : Nat} {o : Oper} {v : Value}
theorem InvS.nextS (h : InvS ops s G T a0 L a w) (mono : MonoF ops T R) (ho : ops[i]? = some o) (hL : L i = false)
    (hr : ∀ d ∈ deps o, L d = true) (hT : T i (at_ (a.put o.dst v)) w') (hG : G (L s || s == i) w') (hR : R i (at_ (a.put o.dst v)) w w') : InvS ops s G T a0 (fun j => L j || j == i) (a.put o.dst v) w' where
  g := hG
  defers := (put_defers _ _ _).trans h.defers
  size := (put_size _ _ _).trans h.size
  told := fun j oj hj hl => by
    by_cases hji : j = i
    · subst hji; exact hT
    · have hl' : L j = true := by simpa [hji] using hl
      exact mono L i j o oj (at_ a) _ w w' ho hj hL hl' (fun d hd => h.closed j oj d hj hl' hd) (fun k hk => getD_put _ _ _ _ hk) (h.told j oj hj hl') hR
  rest := fun k hk => by
    have hne : o.dst ≠ some k := fun e => hk i (by simp) (by rw [ho]; exact e)
    rw [getD_put _ _ _ _ hne]
    exact h.rest k (fun j hj => hk j (by simp [hj]))
  closed := fun j o' d hj hl hd' => by
    by_cases e : j = i
    · subst e
      rw [ho] at hj; cases hj
      simp [hr d hd']
    · have hl' : L j = true := by simpa [e] using hl
      simp [h.closed j o' d hj hl' hd']
theorem any_genS (hss : s < ops.size) (hac : acyc ops = true) (mono : MonoF ops T R)
    (step : ∀ (L : Nat → Bool) (i : Nat) (o : Oper) (a : Act) (w : World), ops[i]? = some o → InvS ops s G T a0 L a w → L i = false → (∀ d ∈ deps o, L d = true) →
      wpOp P ops Q i (fun a' w' => ∃ v, a' = a.put o.dst v ∧ T i (at_ (a.put o.dst v)) w' ∧ G (L s || s == i) w' ∧ R i (at_ (a.put o.dst v)) w w') a w)
    (done : ∀ a w, InvS ops s G T a0 (fun _ => true) a w → Q .normal a w) :
    ∀ (fuel : Nat) (listed : Array Bool) (a : Act) (w : World), listed.size = ops.size → left ops.size listed ≤ fuel → InvS ops s G T a0 (fun j => listed.getD j false) a w → wpAny P .any ops Q fuel listed a w := by
  have fin : ∀ (listed : Array Bool) (a : Act) (w : World), listed.size = ops.size → Region.ready .any ops listed = [] → InvS ops s G T a0 (fun j => listed.getD j false) a w → Q .normal a w := fun listed a w hs hr hI => by
    refine done a w ?_
    have hall := all_listed hac hr hs
    have hL : ∀ j o, ops[j]? = some o → listed.getD j false = true := fun j o hj => by
      have hjs : j < ops.size := by
        by_cases hl : j < ops.size
        · exact hl
        · have e : ops[j]? = none := by simp; omega
          rw [e] at hj; cases hj
      have := hall j hjs
      have hjl : j < listed.size := by omega
      simpa [Array.getD_eq_getD_getElem?, Array.getElem?_eq_getElem hjl] using this
    have hg1 : G true w := by
      have hall' := hall s hss
      have h1 := hI.g
      have hjl : s < listed.size := by omega
      have e : listed.getD s false = true := by simpa [Array.getD_eq_getD_getElem?, Array.getElem?_eq_getElem hjl] using hall'
      rw [e] at h1; exact h1
    exact ⟨hg1, hI.defers, hI.size, fun j o hj _ => hI.told j o hj (hL j o hj), fun k hk => hI.rest k (fun j hj => hk j rfl), fun _ _ _ _ _ _ => rfl⟩
  intro fuel
  induction fuel with
  | zero =>
    intro listed a w hs hf hI
    have hr : Region.ready .any ops listed = [] := by
      refine List.eq_nil_iff_forall_not_mem.2 fun i hi => ?_
      obtain ⟨h1, h2, _⟩ := mem_ready.1 hi
      have h0 : left ops.size listed = 0 := by omega
      have := (List.countP_eq_zero.1 h0) i (List.mem_range.2 h1)
      simp [h2] at this
    exact ⟨hr, fin listed a w hs hr hI⟩
  | succ fuel ih =>
    intro listed a w hs hf hI
    refine ⟨fun hr => fin listed a w hs hr hI, fun i hi => ?_⟩
    obtain ⟨h1, h2, o, ho, h3⟩ := mem_ready.1 hi
    have hil : i < listed.size := by omega
    have hLi : listed.getD i false = false := by
      simpa [Array.getD_eq_getD_getElem?, Array.getElem?_eq_getElem hil] using h2
    refine wpOp_mono ?_ (step (fun j => listed.getD j false) i o a w ho hI hLi h3)
    rintro a' w' ⟨v, rfl, hT, hG, hR⟩
    refine ih _ _ _ (by simpa using hs) ?_ ?_
    · have hlt : left ops.size (listed.setIfInBounds i true) < left ops.size listed := by
        refine countP_lt (x := i) (fun x hx => ?_) (List.mem_range.2 h1) (by simp [h2]) ?_
        · by_cases hxi : x = i
          · subst hxi; simp [h2]
          · simpa [Array.getD_eq_getD_getElem?, Array.getElem?_setIfInBounds, Ne.symm hxi] using hx
        · simp [Array.getD_eq_getD_getElem?, hil]
      omega
    · have hI' := hI.nextS mono ho hLi h3 hT hG hR
      have e : (fun j => (listed.setIfInBounds i true).getD j false) = fun j => listed.getD j false || j == i := by
        funext j
        by_cases hj : j = i
        · subst hj; simp [Array.getD_eq_getD_getElem?, hil]
        · simp [Array.getD_eq_getD_getElem?, Ne.symm hj, hj]
      rw [e]
      exact hI'
theorem region_genS {id : Nat} (hm : P.follows .mixedOrders = true) (hac : acyc ops = true) (s : Nat) (hss : s < ops.size) (G : Bool → World → Prop) (T : Nat → (Nat → Value) → World → Prop) (R : Nat → (Nat → Value) → World → World → Prop)
    (mono : MonoF ops T R) (hG : G false w.drew)
    (step : ∀ (L : Nat → Bool) (i : Nat) (o : Oper) (a : Act) (w : World), ops[i]? = some o → InvS ops s G T a0 L a w → L i = false → (∀ d ∈ deps o, L d = true) →
      wpOp P ops Q i (fun a' w' => ∃ v, a' = a.put o.dst v ∧ T i (at_ (a.put o.dst v)) w' ∧ G (L s || s == i) w' ∧ R i (at_ (a.put o.dst v)) w w') a w)
    (done : ∀ a w, InvS ops s G T a0 (fun _ => true) a w → Q .normal a w) : (Code.region id ops true).wp P Q a0 w := by
  have no : ∀ j, (Array.replicate ops.size false).getD j false = true → False := fun j hl => by
    by_cases hj : j < ops.size
    · simp [Array.getD_eq_getD_getElem?, hj] at hl
    · simp [Array.getD_eq_getD_getElem?, hj] at hl
  have hg0 : G ((Array.replicate ops.size false).getD s false) w.drew := by
    have e : (Array.replicate ops.size false).getD s false = false := by simp [Array.getD_eq_getD_getElem?, hss]
    rw [e]; exact hG
  exact wp_region_any hm (any_genS hss hac mono step done ops.size _ a0 w.drew (by simp) (by
    refine Nat.le_trans List.countP_le_length ?_
    simp) ⟨hg0, rfl, rfl, fun j o _ hl => (no j hl).elim, fun _ _ => rfl, fun j o d _ hl _ => (no j hl).elim⟩)
theorem InvS.get (h : InvS ops s G T a0 L a w) (hr : ∀ d ∈ deps o, L d = true) (j : Nat) {oj : Oper} (hj : ops[j]? = some oj) (hd : (deps o).contains j = true) : T j (at_ a) w :=
  h.told j oj hj (hr j (by simpa using hd))
theorem InvS.old (h : InvS ops s G T a0 L a w) (k : Nat) (hk : (ops.all fun o => o.dst != some k) = true) : a.tmps.getD k undef = a0.tmps.getD k undef :=
  h.rest k fun j _ e => by
    cases hj : ops[j]? with
    | none => simp [hj] at e
    | some o =>
      have h1 := (Array.all_eq_true_iff_forall_mem.1 hk) o (Array.mem_of_getElem? hj)
      simp [hj] at e
      simp [e] at h1
end
end Go.Proofs.Ytggfjghcgacdnaa.Reg
namespace Go.Proofs.Ytggfjghcgacdnaa.Reg
open Go.RowKit Base
set_option linter.unusedVariables false
set_option maxRecDepth 20000
set_option linter.unusedSimpArgs false

/-- All that some operations wait for, through others too. -/
def wider (ops : Array Oper) : Nat → List Nat → List Nat
  | 0, l => l
  | n + 1, l => wider ops n ((List.range ops.size).filter fun i => l.contains i || l.any fun j => match ops[j]? with
    | some o => (deps o).contains i
    | none => false)
def waitsAll (ops : Array Oper) (s : Nat) : Bool := (List.range ops.size).all fun i => (wider ops ops.size [s]).contains i
theorem wider_listed {ops : Array Oper} {L : Nat → Bool} (h : ∀ j o d, ops[j]? = some o → L j = true → d ∈ deps o → L d = true) : ∀ (n : Nat) (l : List Nat), (∀ i ∈ l, L i = true) → ∀ i ∈ wider ops n l, L i = true
  | 0, l, hl, i, hi => hl i hi
  | n + 1, l, hl, i, hi => by
    refine wider_listed h n _ (fun j hj => ?_) i hi
    rw [List.mem_filter] at hj
    have h2 := hj.2
    rw [Bool.or_eq_true] at h2
    rcases h2 with h2 | h2
    · exact hl j (List.contains_iff_mem.1 h2)
    · obtain ⟨x, hx, hd⟩ := List.any_eq_true.1 h2
      cases hq : ops[x]? with
      | none => simp [hq] at hd
      | some o =>
        simp only [hq] at hd
        exact h x o j hq (hl x hx) (List.contains_iff_mem.1 hd)
/-- What is told of an operation: its slot holds the value that is known. -/
def knownT (ops : Array Oper) (vals : List Value) (j : Nat) (f : Nat → Value) (W : World) : Prop := ∀ k, (ops[j]?).bind (·.dst) = some k → f k = vals.getD j undef
section
variable {P : Program} {ops : Array Oper} {Q : Exit → Act → World → Prop} {s : Nat} {a0 a : Act} {L : Nat → Bool} {w w' : World} {i : Nat} {o : Oper} {v : Value} {vals : List Value}
theorem mono_known {n : Nat} (hds : dstOk ops n = true) : MonoF ops (knownT ops vals) (fun _ _ _ _ => True) := by
  intro L i j oi oj f f' w w' hi hj hLi hLj _ hf hT _ k hk
  rw [hf k (fun e => ?_)]
  · exact hT k hk
  · have : i = j := dst_one hds (by rw [hi]; exact e) hk
    rw [this, hLj] at hLi; cases hLi
theorem region_known {id : Nat} (hm : P.follows .mixedOrders = true) (hac : acyc ops = true) (s : Nat) (hss : s < ops.size) (hds : dstOk ops a0.tmps.size = true) (G : Bool → World → Prop) (vals : List Value) (hG : G false w.drew)
    (step : ∀ (L : Nat → Bool) (i : Nat) (o : Oper) (a : Act) (w : World), ops[i]? = some o → InvS ops s G (knownT ops vals) a0 L a w → L i = false → (∀ d ∈ deps o, L d = true) →
      wpOp P ops Q i (fun a' w' => ∃ v, a' = a.put o.dst v ∧ v = vals.getD i undef ∧ G (L s || s == i) w') a w)
    (done : ∀ a w, InvS ops s G (knownT ops vals) a0 (fun _ => true) a w → Q .normal a w) : (Code.region id ops true).wp P Q a0 w := by
  refine region_genS hm hac s hss G (knownT ops vals) (fun _ _ _ _ => True) (mono_known hds) hG ?_ done
  intro L i o a w hi hI hL hd
  refine wpOp_mono ?_ (step L i o a w hi hI hL hd)
  rintro a' w' ⟨v, rfl, hv, hg⟩
  refine ⟨v, rfl, fun k hk => ?_, hg, trivial⟩
  rw [hi] at hk
  have hk' : o.dst = some k := hk
  have hlt : k < a0.tmps.size := dst_lt hds (i := i) (by rw [hi]; exact hk')
  rw [hk']
  show (a.put (some k) v).tmps.getD k undef = _
  rw [getD_put_same _ _ _ (by rw [hI.size]; exact hlt)]
  exact hv
theorem InvS.val {G : Bool → World → Prop} (h : InvS ops s G (knownT ops vals) a0 L a w) (hr : ∀ d ∈ deps o, L d = true) (j k : Nat) {oj : Oper} (hj : ops[j]? = some oj) (hk : oj.dst = some k) (hd : (deps o).contains j = true) : a.eval (.tmp k) = vals.getD j undef :=
  (h.get hr j hj hd) k (by rw [hj]; exact hk)
theorem InvS.last {G : Bool → World → Prop} (h : InvS ops s G (knownT ops vals) a0 (fun _ => true) a w) (j k : Nat) (hj : (ops[j]?).bind (·.dst) = some k) : a.tmps.getD k undef = vals.getD j undef := by
  cases hq : ops[j]? with
  | none => simp [hq] at hj
  | some oj => exact (h.told j oj hq rfl) k hj
def ge (G E : World → Prop) (b : Bool) (W : World) : Prop := if b = true then E W else G W
theorem region_last {id : Nat} (hm : P.follows .mixedOrders = true) (hac : acyc ops = true) (s : Nat) (hss : s < ops.size) (hall : waitsAll ops s = true) (hds : dstOk ops a0.tmps.size = true) (G E : World → Prop) (vals : List Value) (hG : G w.drew)
    (step : ∀ (L : Nat → Bool) (i : Nat) (o : Oper) (a : Act) (w : World), i ≠ s → ops[i]? = some o → InvS ops s (ge G E) (knownT ops vals) a0 L a w → G w → (∀ d ∈ deps o, L d = true) →
      wpOp P ops Q i (fun a' w' => ∃ v, a' = a.put o.dst v ∧ v = vals.getD i undef ∧ G w') a w)
    (last : ∀ (L : Nat → Bool) (o : Oper) (a : Act) (w : World), ops[s]? = some o → InvS ops s (ge G E) (knownT ops vals) a0 L a w → G w → (∀ d ∈ deps o, L d = true) →
      wpOp P ops Q s (fun a' w' => ∃ v, a' = a.put o.dst v ∧ v = vals.getD s undef ∧ E w') a w)
    (done : ∀ a w, InvS ops s (ge G E) (knownT ops vals) a0 (fun _ => true) a w → E w → Q .normal a w) : (Code.region id ops true).wp P Q a0 w := by
  refine region_known hm hac s hss hds (ge G E) vals (by simpa [ge] using hG) ?_ (fun a w hI => done a w hI (by simpa [ge] using hI.g))
  intro L i o a w hi hI hL hd
  have hil : i < ops.size := by
    by_cases hl : i < ops.size
    · exact hl
    · have e : ops[i]? = none := by simp; omega
      rw [e] at hi; cases hi
  have hLs : L s = false := by
    cases hq : L s with
    | false => rfl
    | true =>
      have h1 := List.all_eq_true.1 hall i (List.mem_range.2 hil)
      have := wider_listed (L := L) hI.closed ops.size [s] (fun j hj => by simp at hj; rw [hj]; exact hq) i (List.contains_iff_mem.1 h1)
      rw [this] at hL; cases hL
  have hg : G w := by have := hI.g; simpa [ge, hLs] using this
  by_cases e : i = s
  · subst e
    refine wpOp_mono ?_ (last L o a w hi hI hg hd)
    rintro a' w' ⟨v, rfl, hv, he⟩
    exact ⟨v, rfl, hv, by simpa [ge] using he⟩
  · refine wpOp_mono ?_ (step L i o a w e hi hI hg hd)
    rintro a' w' ⟨v, rfl, hv, he⟩
    exact ⟨v, rfl, hv, by simpa [ge, hLs, Ne.symm e] using he⟩
/-- A pointer that is not nil. -/
theorem nil_op {x : Operand} {K : Act → World → Prop} {ad : Addr} (ho : o.op = .nilCheck x) (hx : a.eval x = .pointer (some ad)) (h : K (a.put o.dst (.pointer (some ad))) w) : o.wp P a w K Q := by
  refine val_op ?_ h
  unfold execOp
  simp only [ho, hx]
  simp [go_sem]
end
def putAll (f : Nat → Value) (ks : List Nat) (t : Array Value) : Array Value := ks.foldl (fun t k => t.setIfInBounds k (f k)) t
theorem putAll_size (f : Nat → Value) : ∀ (ks : List Nat) (t : Array Value), (putAll f ks t).size = t.size
  | [], t => rfl
  | k :: ks, t => (putAll_size f ks _).trans (by simp)
theorem putAll_get (f : Nat → Value) : ∀ (ks : List Nat) (t : Array Value) (k : Nat), k < t.size → (putAll f ks t).getD k undef = if k ∈ ks then f k else t.getD k undef
  | [], t, k, _ => by simp [putAll]
  | j :: ks, t, k, hk => by
    have ih := putAll_get f ks (t.setIfInBounds j (f j)) k (by simpa using hk)
    have e : putAll f (j :: ks) t = putAll f ks (t.setIfInBounds j (f j)) := rfl
    rw [e, ih]
    by_cases hm : k ∈ ks
    · simp [hm]
    · by_cases hj : k = j
      · subst hj
        simp [hm, Array.getD_eq_getD_getElem?, hk]
      · have hj' : ¬ j = k := fun e => hj e.symm
        simp [hm, hj, hj', Array.getD_eq_getD_getElem?]
theorem frame_of {A a0 : Act} {ks : List Nat} (hs : A.tmps.size = a0.tmps.size) (hd : A.defers = a0.defers) (hr : ∀ k, k ∉ ks → A.tmps.getD k undef = a0.tmps.getD k undef) : A = ⟨putAll (fun k => A.tmps.getD k undef) ks a0.tmps, a0.defers⟩ := by
  obtain ⟨t, d⟩ := A
  simp only at hs hd hr
  subst hd
  congr 1
  apply Array.ext_getElem?
  intro k
  by_cases hk : k < t.size
  · have h1 := putAll_get (fun k => t.getD k undef) ks a0.tmps k (by omega)
    have h2 : (putAll (fun k => t.getD k undef) ks a0.tmps).getD k undef = t.getD k undef := by
      rw [h1]
      by_cases hm : k ∈ ks
      · simp [hm]
      · rw [if_neg hm]; exact (hr k hm).symm
    have hp : k < (putAll (fun k => t.getD k undef) ks a0.tmps).size := by rw [putAll_size]; omega
    rw [Array.getD_eq_getD_getElem?, Array.getD_eq_getD_getElem?, Array.getElem?_eq_getElem hp, Array.getElem?_eq_getElem hk] at h2
    rw [Array.getElem?_eq_getElem hp, Array.getElem?_eq_getElem hk]
    exact congrArg some h2.symm
  · have e1 : t[k]? = none := by simp; omega
    have e2 : (putAll (fun k => t.getD k undef) ks a0.tmps)[k]? = none := by simp [putAll_size]; omega
    rw [e1, e2]
section
variable {ops : Array Oper} {G : World → Prop} {T : Nat → Value → World → Prop} {T' : Nat → (Nat → Value) → World → Prop} {a0 a : Act} {L : Nat → Bool} {w : World}
/-- All the region's slots. -/
def dsts (ops : Array Oper) (ks : List Nat) : Bool := ops.all fun o => match o.dst with | some k => ks.contains k | none => true
theorem dsts_not {ks : List Nat} (h : dsts ops ks = true) {k : Nat} (hk : k ∉ ks) (j : Nat) : (ops[j]?).bind (·.dst) ≠ some k := fun e => by
  cases hj : ops[j]? with
  | none => simp [hj] at e
  | some o =>
    have h1 := (Array.all_eq_true_iff_forall_mem.1 h) o (Array.mem_of_getElem? hj)
    simp [hj] at e
    rw [e] at h1
    exact hk (by simpa using h1)
theorem Inv.frame (h : Inv ops G T a0 L a w) (ks : List Nat) (hks : dsts ops ks = true) : a = ⟨putAll (fun k => a.tmps.getD k undef) ks a0.tmps, a0.defers⟩ :=
  frame_of h.size h.defers fun k hk => h.rest k fun j _ => dsts_not hks hk j
theorem InvG.frame (h : InvG ops G T' a0 L a w) (ks : List Nat) (hks : dsts ops ks = true) : a = ⟨putAll (fun k => a.tmps.getD k undef) ks a0.tmps, a0.defers⟩ :=
  frame_of h.size h.defers fun k hk => h.rest k fun j _ => dsts_not hks hk j
end
section
variable {ops : Array Oper} {s : Nat} {G : Bool → World → Prop} {T : Nat → (Nat → Value) → World → Prop} {a0 a : Act} {L : Nat → Bool} {w : World}
theorem InvS.frame (h : InvS ops s G T a0 L a w) (ks : List Nat) (hks : dsts ops ks = true) : a = ⟨putAll (fun k => a.tmps.getD k undef) ks a0.tmps, a0.defers⟩ :=
  frame_of h.size h.defers fun k hk => h.rest k fun j _ => dsts_not hks hk j
end
end Go.Proofs.Ytggfjghcgacdnaa.Reg
