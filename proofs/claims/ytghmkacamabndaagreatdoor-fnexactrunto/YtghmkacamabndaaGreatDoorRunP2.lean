/-
  What FnExactRunTo leans on: part 2.
-/
import Derived.Test.YtghmkacamabndaaGreatDoorRows
import Derived.MapKept
import Derived.OwnWalk
import Derived.Deep.QuietTactic
import Derived.BigQuiet
import Derived.Test.YtghmkacamabndaaGreatDoorRunP1
set_option linter.unusedVariables false
set_option linter.unusedSimpArgs false
set_option maxRecDepth 20000
namespace Go.Proofs.YtghmkacamabndaaGreatDoor.Reg
open Go.RowKit Base

def at_ (a : Act) (k : Nat) : Value := a.tmps.getD k undef
structure InvG (ops : Array Oper) (G : World → Prop) (T : Nat → (Nat → Value) → World → Prop) (a0 : Act) (L : Nat → Bool) (a : Act) (w : World) : Prop where
 g : G w
 defers : a.defers = a0.defers
 size : a.tmps.size = a0.tmps.size
 told : ∀ j o, ops[j]? = some o → L j = true → T j (at_ a) w
 rest : ∀ k, (∀ j, L j = true → (ops[j]?).bind (·.dst) ≠ some k) → a.tmps.getD k undef = a0.tmps.getD k undef
 closed : ∀ j o d, ops[j]? = some o → L j = true → d ∈ deps o → L d = true
def Mono (ops : Array Oper) (T : Nat → (Nat → Value) → World → Prop) (R : Nat → World → World → Prop) : Prop :=
 ∀ (L : Nat → Bool) (i j : Nat) (oi oj : Oper) (f f' : Nat → Value) (w w' : World), ops[i]? = some oi → ops[j]? = some oj → L i = false → L j = true → (∀ d ∈ deps oj, L d = true) →
  (∀ k, oi.dst ≠ some k → f' k = f k) → T j f w → R i w w' → T j f' w'

section
variable {P : Program} {ops : Array Oper} {Q : Exit → Act → World → Prop} {G : World → Prop} {T : Nat → (Nat → Value) → World → Prop} {R : Nat → World → World → Prop} {a0 a : Act} {L : Nat → Bool} {w w' : World} {i : Nat} {o : Oper} {v : Value}
theorem InvG.next (h : InvG ops G T a0 L a w) (mono : Mono ops T R) (ho : ops[i]? = some o) (hL : L i = false)
  (hr : ∀ d ∈ deps o, L d = true) (hT : T i (at_ (a.put o.dst v)) w') (hG : G w') (hR : R i w w') : InvG ops G T a0 (fun j => L j || j == i) (a.put o.dst v) w' where
 g := hG
 defers := (put_defers _ _ _).trans h.defers
 size := (put_size _ _ _).trans h.size
 told := fun j oj hj hl => by
  by_cases hji : j = i
  ·subst hji; exact hT
  ·have hl' : L j = true := by simpa [hji] using hl
   exact mono L i j o oj (at_ a) _ w w' ho hj hL hl' (fun d hd => h.closed j oj d hj hl' hd) (fun k hk => getD_put _ _ _ _ hk) (h.told j oj hj hl') hR
 rest := fun k hk => by
  have hne : o.dst ≠ some k := fun e => hk i (by simp) (by rw [ho]; exact e)
  rw [getD_put _ _ _ _ hne]
  exact h.rest k (fun j hj => hk j (by simp [hj]))
 closed := fun j o' d hj hl hd' => by
  by_cases e : j = i
  ·subst e
   rw [ho] at hj; cases hj
   simp [hr d hd']
  ·have hl' : L j = true := by simpa [e] using hl
   simp [h.closed j o' d hj hl' hd']
theorem any_gen (hac : acyc ops = true) (mono : Mono ops T R)
  (step : ∀ (L : Nat → Bool) (i : Nat) (o : Oper) (a : Act) (w : World), ops[i]? = some o → InvG ops G T a0 L a w → L i = false → (∀ d ∈ deps o, L d = true) →
   wpOp P ops Q i (fun a' w' => ∃ v, a' = a.put o.dst v ∧ T i (at_ (a.put o.dst v)) w' ∧ G w' ∧ R i w w') a w)
  (done : ∀ a w, InvG ops G T a0 (fun _ => true) a w → Q .normal a w) :
  ∀ (fuel : Nat) (listed : Array Bool) (a : Act) (w : World), listed.size = ops.size → left ops.size listed ≤ fuel → InvG ops G T a0 (fun j => listed.getD j false) a w → wpAny P .any ops Q fuel listed a w := by
 have fin : ∀ (listed : Array Bool) (a : Act) (w : World), listed.size = ops.size → Region.ready .any ops listed = [] → InvG ops G T a0 (fun j => listed.getD j false) a w → Q .normal a w := fun listed a w hs hr hI => by
  refine done a w ?_
  have hall := all_listed hac hr hs
  have hL : ∀ j o, ops[j]? = some o → listed.getD j false = true := fun j o hj => by
   have hjs : j < ops.size := by
    by_cases hl : j < ops.size
    ·exact hl
    ·have e : ops[j]? = none := by simp; omega
     rw [e] at hj; cases hj
   have := hall j hjs
   have hjl : j < listed.size := by omega
   simpa [Array.getD_eq_getD_getElem?, Array.getElem?_eq_getElem hjl] using this
  exact ⟨hI.g, hI.defers, hI.size, fun j o hj _ => hI.told j o hj (hL j o hj), fun k hk => hI.rest k (fun j hj => hk j rfl), fun _ _ _ _ _ _ => rfl⟩
 intro fuel
 induction fuel with
 | zero =>
  intro listed a w hs hf hI
  have hr : Region.ready .any ops listed = [] := by
   refine List.eq_nil_iff_forall_not_mem.2 fun i hi => ?_
   obtain ⟨h1, h2, _⟩ := mem_ready.1 hi
   have h0 : left ops.size listed = 0 := by omega
   have := (List.countP_eq_zero.1 h0) i (List.mem_range.2 h1)
   simp [h2] at this
  exact ⟨hr, fin listed a w hs hr hI⟩
 | succ fuel ih =>
  intro listed a w hs hf hI
  refine ⟨fun hr => fin listed a w hs hr hI, fun i hi => ?_⟩
  obtain ⟨h1, h2, o, ho, h3⟩ := mem_ready.1 hi
  have hil : i < listed.size := by omega
  have hLi : listed.getD i false = false := by
   simpa [Array.getD_eq_getD_getElem?, Array.getElem?_eq_getElem hil] using h2
  refine wpOp_mono ?_ (step (fun j => listed.getD j false) i o a w ho hI hLi h3)
  rintro a' w' ⟨v, rfl, hT, hG, hR⟩
  refine ih _ _ _ (by simpa using hs) ?_ ?_
  ·have hlt : left ops.size (listed.setIfInBounds i true) < left ops.size listed := by
    refine countP_lt (x := i) (fun x hx => ?_) (List.mem_range.2 h1) (by simp [h2]) ?_
    ·by_cases hxi : x = i
     ·subst hxi; simp [h2]
     ·simpa [Array.getD_eq_getD_getElem?, Array.getElem?_setIfInBounds, Ne.symm hxi] using hx
    ·simp [Array.getD_eq_getD_getElem?, hil]
   omega
  ·have hI' := hI.next mono ho hLi h3 hT hG hR
   have e : (fun j => (listed.setIfInBounds i true).getD j false) = fun j => listed.getD j false || j == i := by
    funext j
    by_cases hj : j = i
    ·subst hj; simp [Array.getD_eq_getD_getElem?, hil]
    ·simp [Array.getD_eq_getD_getElem?, Ne.symm hj, hj]
   rw [e]
   exact hI'
theorem region_gen {id : Nat} (hm : P.follows .mixedOrders = true) (hac : acyc ops = true) (G : World → Prop) (T : Nat → (Nat → Value) → World → Prop) (R : Nat → World → World → Prop)
  (mono : Mono ops T R) (hG : G w.drew)
  (step : ∀ (L : Nat → Bool) (i : Nat) (o : Oper) (a : Act) (w : World), ops[i]? = some o → InvG ops G T a0 L a w → L i = false → (∀ d ∈ deps o, L d = true) →
   wpOp P ops Q i (fun a' w' => ∃ v, a' = a.put o.dst v ∧ T i (at_ (a.put o.dst v)) w' ∧ G w' ∧ R i w w') a w)
  (done : ∀ a w, InvG ops G T a0 (fun _ => true) a w → Q .normal a w) : (Code.region id ops true).wp P Q a0 w := by
 have no : ∀ j, (Array.replicate ops.size false).getD j false = true → False := fun j hl => by
  by_cases hj : j < ops.size
  ·simp [Array.getD_eq_getD_getElem?, hj] at hl
  ·simp [Array.getD_eq_getD_getElem?, hj] at hl
 exact wp_region_any hm (any_gen hac mono step done ops.size _ a0 w.drew (by simp) (by
  refine Nat.le_trans List.countP_le_length ?_
  simp) ⟨hG, rfl, rfl, fun j o _ hl => (no j hl).elim, fun _ _ => rfl, fun j o d _ hl _ => (no j hl).elim⟩)
theorem InvG.get (h : InvG ops G T a0 L a w) (hr : ∀ d ∈ deps o, L d = true) (j : Nat) {oj : Oper} (hj : ops[j]? = some oj) (hd : (deps o).contains j = true) : T j (at_ a) w :=
 h.told j oj hj (hr j (by simpa using hd))
theorem InvG.old (h : InvG ops G T a0 L a w) (k : Nat) (hk : (ops.all fun o => o.dst != some k) = true) : a.tmps.getD k undef = a0.tmps.getD k undef :=
 h.rest k fun j _ e => by
  cases hj : ops[j]? with
  | none => simp [hj] at e
  | some o =>
   have h1 := (Array.all_eq_true_iff_forall_mem.1 hk) o (Array.mem_of_getElem? hj)
   simp [hj] at e
   simp [e] at h1
end
end Go.Proofs.YtghmkacamabndaaGreatDoor.Reg
namespace Go.Proofs.YtghmkacamabndaaGreatDoor.Mp
open Go.RowKit Base

def mget : List (Int × Int) → Int → Option Int
 | [], _ => none
 | (k, v) :: r, q => if q = k then some v else mget r q
def mput : List (Int × Int) → Int → Int → List (Int × Int)
 | [], q, n => [(q, n)]
 | (k, v) :: r, q, n => if q = k then (k, n) :: r else (k, v) :: mput r q n
def mdel : List (Int × Int) → Int → List (Int × Int)
 | [], _ => []
 | (k, v) :: r, q => if q = k then r else (k, v) :: mdel r q
theorem mget_mput : ∀ (L : List (Int × Int)) (q n x : Int), mget (mput L q n) x = if x = q then some n else mget L x
 | [], q, n, x => by simp [mput, mget]
 | (k, v) :: r, q, n, x => by
  by_cases h : q = k
  ·subst h
   by_cases hx : x = q <;> simp [mput, mget, hx]
  ·by_cases hx : x = k
   ·have : ¬ x = q := by omega
    simp [mput, mget, h, hx]
    omega
   ·simp [mput, mget, h, hx, mget_mput r q n x]
def mfind : List (Int × Int) → Int → Nat → Option (Nat × Int)
 | [], _, _ => none
 | (k, v) :: r, q, i => if q = k then some (i, v) else mfind r q (i + 1)
def Ents (es : List MapEntry) (L : List (Int × Int)) : Prop := es.map (fun e => (e.key, e.val)) = L.map (fun x => (Value.int .i64 x.1, Value.int .i64 x.2))
theorem Ents.cons {e : MapEntry} {es : List MapEntry} {x : Int × Int} {L : List (Int × Int)} (h : Ents (e :: es) (x :: L)) : e.key = .int .i64 x.1 ∧ e.val = .int .i64 x.2 ∧ Ents es L := by
 simp only [Ents, List.map_cons, List.cons.injEq, Prod.mk.injEq] at h
 exact ⟨h.1.1, h.1.2, h.2⟩
theorem now_find : ∀ (es : List MapEntry) (L : List (Int × Int)) (q : Int) (i : Nat), Ents es L →
  Instr.findNow (.int .i64) (.int .i64 q) es i = some ((mfind L q i).map fun x => (x.1, Value.int .i64 x.2))
 | [], [], q, i, h => rfl
 | [], _ :: _, q, i, h => by simp [Ents] at h
 | _ :: _, [], q, i, h => by simp [Ents] at h
 | e :: es, (k, v) :: L, q, i, h => by
  obtain ⟨h1, h2, h3⟩ := h.cons
  unfold Instr.findNow
  rw [h1]
  by_cases hq : q = k
  ·subst hq
   simp [Instr.sameNow, mfind, h2]
  ·have hf : (q == k) = false := by simpa using hq
   simp [Instr.sameNow, mfind, hq, hf, now_find es L q (i + 1) h3]
theorem find_get : ∀ (L : List (Int × Int)) (q : Int) (i : Nat), (mfind L q i).map (·.2) = mget L q
 | [], q, i => rfl
 | (k, v) :: L, q, i => by
  by_cases hq : q = k <;> simp [mfind, mget, hq, find_get L q (i + 1)]
theorem find_none : ∀ (L : List (Int × Int)) (q : Int) (i : Nat), mfind L q i = none → (∀ n, mput L q n = L ++ [(q, n)]) ∧ mdel L q = L
 | [], q, i, _ => ⟨fun _ => rfl, rfl⟩
 | (k, v) :: L, q, i, h => by
  by_cases hq : q = k
  ·simp [mfind, hq] at h
  ·simp only [mfind, hq, if_false] at h
   have := find_none L q (i + 1) h
   simp [mput, mdel, hq, this]
theorem find_some : ∀ (L : List (Int × Int)) (q : Int) (i j : Nat) (v : Int), mfind L q i = some (j, v) →
  ∃ d, j = i + d ∧ L[d]? = some (q, v) ∧ (∀ n, mput L q n = L.modify d (fun _ => (q, n))) ∧ mdel L q = L.eraseIdx d
 | [], q, i, j, v, h => by simp [mfind] at h
 | (k, u) :: L, q, i, j, v, h => by
  by_cases hq : q = k
  ·subst hq
   simp only [mfind, if_true, Option.some.injEq, Prod.mk.injEq] at h
   obtain ⟨rfl, rfl⟩ := h
   exact ⟨0, rfl, rfl, fun n => by simp [mput], by simp [mdel]⟩
  ·simp only [mfind, hq, if_false] at h
   obtain ⟨d, rfl, h1, h2, h3⟩ := find_some L q (i + 1) j v h
   exact ⟨d + 1, by omega, by simpa using h1, fun n => by simp [mput, hq, h2], by simp [mdel, hq, h3]⟩
theorem Ents.at {es : List MapEntry} {L : List (Int × Int)} (h : Ents es L) {d : Nat} {x : Int × Int} (hx : L[d]? = some x) : ∃ e, es[d]? = some e ∧ e.key = .int .i64 x.1 := by
 have := congrArg (fun l => l[d]?) h
 simp only [List.getElem?_map, hx, Option.map_some] at this
 cases he : es[d]? with
 | none => simp [he] at this
 | some e =>
  simp only [he, Option.map_some, Option.some.injEq, Prod.mk.injEq] at this
  exact ⟨e, rfl, this.1⟩

def MapAt (w : World) (b : Nat) (L : List (Int × Int)) : Prop := ∃ es clock, w.heap[b]? = some (.map es clock) ∧ Ents es.toList L
theorem MapAt.lt {w : World} {b : Nat} {L : List (Int × Int)} (h : MapAt w b L) : b < w.heap.size := by
 obtain ⟨es, c, h, _⟩ := h
 exact (Array.getElem?_eq_some_iff.1 h).1
theorem MapAt.keep {w w' : World} {b : Nat} {L : List (Int × Int)} (h : MapAt w b L) (hk : w'.heap[b]? = w.heap[b]?) : MapAt w' b L := by
 obtain ⟨es, c, h, h2⟩ := h
 exact ⟨es, c, hk.trans h, h2⟩
theorem MapAt.below {w w' : World} {b : Nat} {L : List (Int × Int)} (h : MapAt w b L) (hb : Below w.heap.size w w') : MapAt w' b L := h.keep (hb.block b h.lt)
theorem MapAt.drewN {w : World} {b : Nat} {L : List (Int × Int)} (h : MapAt w b L) (n : Nat) : MapAt (w.drewN n) b L := h.keep rfl
theorem MapAt.onto {w w' : World} {b p : Nat} {L : List (Int × Int)} (h : MapAt w b L) (ho : Onto p w w') (hp : b ≠ p) : MapAt w' b L := h.keep (ho.block b hp h.lt)
theorem MapAt.new (w : World) : MapAt (w.alloc (.map #[] 0)) w.heap.size [] := ⟨#[], 0, heap_alloc_new _ _, rfl⟩
def setB (w : World) (b : Nat) (o : Obj) : World := { w with heap := w.heap.setIfInBounds b o }
theorem onto_setB (w : World) (b : Nat) (o : Obj) : Onto b w (setB w b o) :=
 ⟨rfl, rfl, rfl, by simp [setB], fun k hk _ => by simp [setB, Array.getElem?_setIfInBounds]; intro e; omega⟩
theorem size_setB (w : World) (b : Nat) (o : Obj) : (setB w b o).heap.size = w.heap.size := by simp [setB]
theorem setB_at {w : World} {b : Nat} (o : Obj) (hb : b < w.heap.size) : (setB w b o).heap[b]? = some o := by simp [setB, hb]
section
variable {P : Program} {w : World} {b : Nat} {L : List (Int × Int)} {t k e : TypeId}
theorem run_und {x : TypeId} {d : TypeDesc} (h : P.underlying x = some d) : (underlying x).run P w = .ok d w := by
 simp [underlying, h]
theorem run_check (hk : P.underlying k = some (.int .i64)) (q : Int) (em : Bool) : (Instr.checkKey em 10000 k (.int .i64 q)).run P w = .ok () w := by
 unfold Instr.checkKey
 simp [run_und hk]
theorem run_find (hk : P.underlying k = some (.int .i64)) {es : List MapEntry} (h : Ents es L) (q : Int) : (Instr.findKey k (.int .i64 q) es).run P w = .ok ((mfind L q 0).map fun x => (x.1, Value.int .i64 x.2)) w := by
 simp [Instr.findKey, run_und hk, now_find es L q 0 h]
theorem run_get (ht : P.underlying t = some (.map k e)) (hk : P.underlying k = some (.int .i64)) (hz : (zeroValue e).run P w = .ok (.int .i64 0) w) (h : MapAt w b L) (q : Int) :
  (Instr.lookup t (.map (some b)) (.int .i64 q) false).run P w = .ok (.int .i64 ((mget L q).getD 0)) w ∧
  (Instr.lookup t (.map (some b)) (.int .i64 q) true).run P w = .ok (.tuple #[.int .i64 ((mget L q).getD 0), .bool (mget L q).isSome]) w := by
 obtain ⟨es, c, hb, hE⟩ := h
 rw [← find_get L q 0]
 have hf := run_find (w := w) hk hE q
 cases hm : mfind L q 0 with
 | none =>
  rw [hm] at hf
  constructor <;> simp [Instr.lookup, run_und ht, MapKept.run_getObj_map hb, run_check hk, hf, hz, Result.andThen]
 | some x =>
  rw [hm] at hf
  constructor <;> simp [Instr.lookup, run_und ht, MapKept.run_getObj_map hb, run_check hk, hf, Result.andThen]
theorem stays (q : Int) : (Instr.keyThatStays (.int .i64 q) (.int .i64 q)).run P w = .ok (.int .i64 q) w := by
 simp [Instr.keyThatStays, Instr.sameBits]
theorem run_put (ht : P.underlying t = some (.map k e)) (hk : P.underlying k = some (.int .i64)) (h : MapAt w b L) (q n : Int) :
  ∃ w', (Instr.mapUpdate t (.map (some b)) (.int .i64 q) (.int .i64 n)).run P w = .ok () w' ∧ MapAt w' b (mput L q n) ∧ Onto b w w' ∧ w'.heap.size = w.heap.size := by
 have hlt := h.lt
 obtain ⟨es, c, hb, hE⟩ := h
 have hf := run_find (w := w) hk hE q
 cases hm : mfind L q 0 with
 | none =>
  rw [hm] at hf
  refine ⟨setB w b (.map (es.push { key := .int .i64 q, val := .int .i64 n, born := c }) (c + 1)), ?_, ⟨_, _, setB_at _ hlt, ?_⟩, onto_setB _ _ _, size_setB _ _ _⟩
  ·simp [Instr.mapUpdate, run_und ht, MapKept.run_getObj_map hb, run_check hk, hf, MapKept.run_setObj_map _ hb, Result.andThen, setB]
  ·rw [(find_none L q 0 hm).1]
   unfold Ents at hE ⊢
   simp [hE]
 | some x =>
  obtain ⟨j, v⟩ := x
  rw [hm] at hf
  obtain ⟨d, hj, h1, h2, _⟩ := find_some L q 0 j v hm
  obtain rfl : j = d := by omega
  obtain ⟨ent, he, hek⟩ := hE.at h1
  have he' : es[j]? = some ent := by rw [← Array.getElem?_toList]; exact he
  refine ⟨setB w b (.map (es.modify j fun y => { y with key := .int .i64 q, val := .int .i64 n }) c), ?_, ⟨_, _, setB_at _ hlt, ?_⟩, onto_setB _ _ _, size_setB _ _ _⟩
  ·have hs := stays (P := P) (w := w) q
   simp only at hek
   simp [Instr.mapUpdate, run_und ht, MapKept.run_getObj_map hb, run_check hk, hf, he', hek, hs, MapKept.run_setObj_map _ hb, Result.andThen, setB]
  ·rw [h2]
   unfold Ents at hE ⊢
   rw [Array.toList_modify]
   refine List.ext_getElem? fun i => ?_
   have hi := congrArg (fun l => l[i]?) hE
   simp only [List.getElem?_map, List.getElem?_modify] at hi ⊢
   by_cases hji : j = i
   ·subst hji
    simp [he, h1]
   ·simpa [hji] using hi
theorem run_del {ty : TypeId} (ht : P.underlying t = some (.map k e)) (hk : P.underlying k = some (.int .i64)) (h : MapAt w b L) (q : Int) :
  ∃ w', (Builtin.delete_ #[t, k] ty #[.map (some b), .int .i64 q]).run P w = .ok (.tuple #[]) w' ∧ MapAt w' b (mdel L q) ∧ Onto b w w' ∧ w'.heap.size = w.heap.size := by
 have hlt := h.lt
 obtain ⟨es, c, hb, hE⟩ := h
 have hf := run_find (w := w) hk hE q
 cases hm : mfind L q 0 with
 | none =>
  rw [hm] at hf
  refine ⟨setB w b (.map es c), ?_, ⟨_, _, setB_at _ hlt, ?_⟩, onto_setB _ _ _, size_setB _ _ _⟩
  ·simp [Builtin.delete_, run_und ht, MapKept.run_getObj_map hb, run_check hk, hf, MapKept.run_setObj_map _ hb, Result.andThen, setB]
  ·rw [(find_none L q 0 hm).2]; exact hE
 | some x =>
  obtain ⟨j, v⟩ := x
  rw [hm] at hf
  obtain ⟨d, hj, h1, _, h3⟩ := find_some L q 0 j v hm
  obtain rfl : j = d := by omega
  obtain ⟨ent, he, hek⟩ := hE.at h1
  have hjl : j < es.size := by
   have := (List.getElem?_eq_some_iff.1 he).1
   simpa using this
  refine ⟨setB w b (.map (es.eraseIdxIfInBounds j) c), ?_, ⟨_, _, setB_at _ hlt, ?_⟩, onto_setB _ _ _, size_setB _ _ _⟩
  ·simp [Builtin.delete_, run_und ht, MapKept.run_getObj_map hb, run_check hk, hf, MapKept.run_setObj_map _ hb, Result.andThen, setB]
  ·rw [h3]
   unfold Ents at hE ⊢
   unfold Array.eraseIdxIfInBounds
   rw [dif_pos hjl]
   simp only [Array.toList_eraseIdx]
   refine List.ext_getElem? fun i => ?_
   have hi := fun i : Nat => congrArg (fun l => l[i]?) hE
   simp only [List.getElem?_map] at hi
   simp only [List.getElem?_map, List.getElem?_eraseIdx]
   split <;> exact hi _
end
end Go.Proofs.YtghmkacamabndaaGreatDoor.Mp
namespace Go.Proofs.YtghmkacamabndaaGreatDoor.Reg
open Go.RowKit Base Mp Rw

def supOk (ops : Array Oper) (S : List (List Nat)) : Bool := (List.range ops.size).all fun j => (S.getD j []).all fun s => (List.range ops.size).all fun i =>
 (ops[i]?).bind (·.dst) != some s || i == j || (match ops[j]? with | some o => (deps o).contains i | none => true)
section
variable {ops : Array Oper} {T : Nat → (Nat → Value) → World → Prop} {R : Nat → World → World → Prop} {S : List (List Nat)}
theorem mono_sup (hS : supOk ops S = true) (hK : ∀ j f f' w, (∀ s ∈ S.getD j [], f' s = f s) → T j f w → T j f' w) (hR : ∀ i j f w w', i ≠ j → T j f w → R i w w' → T j f w') : Mono ops T R := by
 intro L i j oi oj f f' w w' hi hj hLi hLj hdep hf hT hRi
 have hne : i ≠ j := fun e => by rw [e, hLj] at hLi; cases hLi
 have hil : i < ops.size := by
  by_cases hl : i < ops.size
  ·exact hl
  ·have e : ops[i]? = none := by simp; omega
   rw [e] at hi; cases hi
 have hjl : j < ops.size := by
  by_cases hl : j < ops.size
  ·exact hl
  ·have e : ops[j]? = none := by simp; omega
   rw [e] at hj; cases hj
 refine hR i j f' w w' hne (hK j f f' w (fun s hs => hf s fun e => ?_) hT) hRi
 have h1 := List.all_eq_true.1 (List.all_eq_true.1 (List.all_eq_true.1 hS j (List.mem_range.2 hjl)) s hs) i (List.mem_range.2 hil)
 rw [hi, hj] at h1
 simp only [Option.bind_some, e, bne_self_eq_false, Bool.false_or, Bool.or_eq_true, beq_iff_eq] at h1
 rcases h1 with h1 | h1
 ·exact hne h1
 ·have := hdep i (List.contains_iff_mem.1 h1)
  rw [hLi] at this; cases this
end

structure Nice (L : List (Int × Int)) : Prop where
 one : (L.map Prod.fst).Nodup
 range : ∀ x v, mget L x = some v → 240 ≤ x ∧ x ≤ 248
theorem mput_keys : ∀ (L : List (Int × Int)) (q n x : Int), x ∈ (mput L q n).map Prod.fst ↔ x = q ∨ x ∈ L.map Prod.fst
 | [], q, n, x => by simp [mput]
 | (k, v) :: r, q, n, x => by
  by_cases h : q = k
  ·subst h; simp [mput]
  ·simp only [mput, h, if_false, List.map_cons, List.mem_cons, mput_keys r q n x]
   constructor
   ·rintro (h | h | h) <;> simp [h]
   ·rintro (h | h | h) <;> simp [h]
theorem mput_one : ∀ (L : List (Int × Int)) (q n : Int), (L.map Prod.fst).Nodup → ((mput L q n).map Prod.fst).Nodup
 | [], q, n, _ => by simp [mput]
 | (k, v) :: r, q, n, h => by
  by_cases hq : q = k
  ·subst hq; simpa [mput] using h
  ·simp only [List.map_cons, List.nodup_cons] at h
   simp only [mput, hq, if_false, List.map_cons, List.nodup_cons]
   refine ⟨fun hm => ?_, mput_one r q n h.2⟩
   rcases (mput_keys r q n k).1 hm with e | e
   ·exact hq e.symm
   ·exact h.1 e
theorem mget_none : ∀ (L : List (Int × Int)) (x : Int), x ∉ L.map Prod.fst → mget L x = none
 | [], x, _ => rfl
 | (k, v) :: r, x, h => by
  simp only [List.map_cons, List.mem_cons, not_or] at h
  simp [mget, h.1, mget_none r x h.2]
theorem mget_mdel : ∀ (L : List (Int × Int)) (q x : Int), (L.map Prod.fst).Nodup → mget (mdel L q) x = if x = q then none else mget L x
 | [], q, x, _ => by simp [mdel, mget]
 | (k, v) :: r, q, x, h => by
  simp only [List.map_cons, List.nodup_cons] at h
  by_cases hq : q = k
  ·subst hq
   by_cases hx : x = q
   ·subst hx; simp [mdel, mget_none r x h.1]
   ·simp [mdel, mget, hx]
  ·by_cases hx : x = k
   ·subst hx
    have : ¬ x = q := fun e => hq e.symm
    simp [mdel, mget, hq, this]
   ·simp [mdel, mget, hq, hx, mget_mdel r q x h.2]
theorem Nice.nil : Nice [] := ⟨by simp, fun x v h => by simp [mget] at h⟩
theorem Nice.put {L : List (Int × Int)} (h : Nice L) {q : Int} (n : Int) (hq : 240 ≤ q ∧ q ≤ 248) : Nice (mput L q n) :=
 ⟨mput_one L q n h.one, fun x v hx => by
  rw [mget_mput] at hx
  split at hx
  ·omega
  ·exact h.range x v hx⟩
theorem ents_one : ∀ (L L' : List (Int × Int)), L.map (fun x => (Value.int .i64 x.1, Value.int .i64 x.2)) = L'.map (fun x => (Value.int .i64 x.1, Value.int .i64 x.2)) → L = L'
 | [], [], _ => rfl
 | [], _ :: _, h => by simp at h
 | _ :: _, [], h => by simp at h
 | (a, b) :: L, (a', b') :: L', h => by
  simp only [List.map_cons, List.cons.injEq, Prod.mk.injEq, Value.int.injEq, true_and] at h
  obtain ⟨⟨rfl, rfl⟩, h⟩ := h
  rw [ents_one L L' h]
theorem mapAt_one {w : World} {b : Nat} {L L' : List (Int × Int)} (h : MapAt w b L) (h' : MapAt w b L') : L = L' := by
 obtain ⟨es, c, h1, h2⟩ := h
 obtain ⟨es', c', h1', h2'⟩ := h'
 rw [h1] at h1'
 simp only [Option.some.injEq, Obj.map.injEq] at h1'
 obtain ⟨rfl, rfl⟩ := h1'
 exact ents_one _ _ (h2.symm.trans h2')

abbrev Tk : Type := (Nat × Value) ⊕ Unit ⊕ (Int × Int) ⊕ (Nat × Nat)
def Tk.val (k : Nat) (v : Value) : Tk := .inl (k, v)
def Tk.new : Tk := .inr (.inl ())
def Tk.ins (q x : Int) : Tk := .inr (.inr (.inl (q, x)))
def Tk.same (k k' : Nat) : Tk := .inr (.inr (.inr (k, k')))
def Tk.says (g : Nat) (f : Nat → Value) (w : World) : Tk → Prop
 | .inl (k, v) => f k = v
 | .inr (.inl _) => ∃ b L, f 3 = .map (some b) ∧ g < b ∧ MapAt w b L ∧ Nice L
 | .inr (.inr (.inl (q, x))) => ∃ b L, f 3 = .map (some b) ∧ MapAt w b L ∧ Nice L ∧ mget L q = some x
 | .inr (.inr (.inr (k, k'))) => f k = f k'
def Tk.sup : Tk → List Nat
 | .inl (k, _) => [k]
 | .inr (.inl _) => [3]
 | .inr (.inr (.inl _)) => [3]
 | .inr (.inr (.inr (k, k'))) => [k, k']
def Tk.key : Tk → Int
 | .inr (.inr (.inl (q, _))) => q
 | _ => -1
def told (g : Nat) (l : List Tk) (j : Nat) (f : Nat → Value) (w : World) : Prop := match l[j]? with
 | some t => t.says g f w
 | none => True
def Rq (q : Int) (w w' : World) : Prop := ∀ b L, MapAt w b L → Nice L → ∃ L', MapAt w' b L' ∧ Nice L' ∧ ∀ x, x ≠ q → mget L' x = mget L x
theorem Rq.below {q : Int} {w w' : World} (h : Below w.heap.size w w') : Rq q w w' := fun b L hm hn => ⟨L, hm.below h, hn, fun _ _ => rfl⟩
theorem Rq.refl (q : Int) (w : World) : Rq q w w := fun b L hm hn => ⟨L, hm, hn, fun _ _ => rfl⟩
theorem Rq.put {q n : Int} {w w' : World} {b : Nat} {L : List (Int × Int)} (hm : MapAt w b L) (hm' : MapAt w' b (mput L q n)) (ho : Onto b w w') (hq : 240 ≤ q ∧ q ≤ 248) : Rq q w w' := fun b' L' hb' hn' => by
 by_cases e : b' = b
 ·subst e
  obtain rfl := mapAt_one hm hb'
  exact ⟨_, hm', hn'.put n hq, fun x hx => by rw [mget_mput, if_neg hx]⟩
 ·exact ⟨L', hb'.onto ho e, hn', fun _ _ => rfl⟩
def apart (l : List Int) : Bool := (List.range l.length).all fun i => (List.range l.length).all fun j => i == j || l.getD j (-1) == -1 || l.getD i (-1) != l.getD j (-1)
theorem told_mono {ops : Array Oper} {g : Nat} {l : List Tk} {ks : List Int} (hks : l.map Tk.key = ks) (hap : apart ks = true) (hS : supOk ops (l.map Tk.sup) = true) (hpos : ∀ q x, Tk.ins q x ∈ l → 240 ≤ q) (hlen : l.length = ops.size) :
  Mono ops (told g l) (fun i => Rq (ks.getD i (-1))) := by
 refine mono_sup hS (fun j f f' w hf hT => ?_) (fun i j f w w' hij hT hR => ?_)
 ·unfold told at *
  cases e : l[j]? with
  | none => trivial
  | some t =>
   rw [e] at hT
   have hs : (l.map Tk.sup).getD j [] = t.sup := by simp [e]
   rw [hs] at hf
   rcases t with ⟨k, v⟩ | ⟨⟩ | ⟨q, x⟩ | ⟨k, k'⟩
   · exact (hf k (by simp [Tk.sup])).trans hT
   · obtain ⟨b, L, h1, h2⟩ := hT; exact ⟨b, L, (hf 3 (by simp [Tk.sup])).trans h1, h2⟩
   · obtain ⟨b, L, h1, h2⟩ := hT; exact ⟨b, L, (hf 3 (by simp [Tk.sup])).trans h1, h2⟩
   · exact ((hf k (by simp [Tk.sup])).trans hT).trans (hf k' (by simp [Tk.sup])).symm
 ·unfold told at *
  cases e : l[j]? with
  | none => trivial
  | some t =>
   rw [e] at hT
   rcases t with ⟨k, v⟩ | ⟨⟩ | ⟨q, x⟩ | ⟨k, k'⟩
   · exact hT
   ·obtain ⟨b, L, h1, h2, h3, h4⟩ := hT
    obtain ⟨L', m', n', _⟩ := hR b L h3 h4
    exact ⟨b, L', h1, h2, m', n'⟩
   ·obtain ⟨b, L, h1, h3, h4, h5⟩ := hT
    obtain ⟨L', m', n', hx⟩ := hR b L h3 h4
    refine ⟨b, L', h1, m', n', ?_⟩
    rw [hx q, h5]
    have hj : ks.getD j (-1) = q := by rw [← hks]; simp [e, Tk.key]
    have hjl : j < ks.length := by
     rw [← hks, List.length_map]
     exact (List.getElem?_eq_some_iff.1 e).1
    have hq := hpos q x (List.mem_of_getElem? e)
    by_cases hil : i < ks.length
    ·have h1 := List.all_eq_true.1 (List.all_eq_true.1 hap i (List.mem_range.2 hil)) j (List.mem_range.2 hjl)
     simp only [Bool.or_eq_true, beq_iff_eq, bne_iff_ne, hj] at h1
     rcases h1 with (h1 | h1) | h1
     ·exact absurd h1 hij
     ·omega
     ·exact fun e => h1 e.symm
    ·have : ks.getD i (-1) = -1 := by simp [List.getD_eq_getElem?_getD, List.getElem?_eq_none (by omega : ks.length ≤ i)]
     rw [this]; omega
   · exact hT
section
variable {P : Program} {Q : Exit → Act → World → Prop} {a : Act} {o : Oper} {w : World} {K : Act → World → Prop}
theorem makeMap_op {t : TypeId} (ho : o.op = .makeMap t none) (h : K (a.put o.dst (.map (some w.heap.size))) (w.alloc (.map #[] 0))) : o.wp P a w K Q := by
 have e : (Instr.makeMap t none).run P w = .ok (.map (some w.heap.size)) (w.alloc (.map #[] 0)) := rfl
 unfold Oper.wp execOp
 simp only [ho, Option.map_none, Sem.run_bind, Result.andThen_ok, e]
 exact h
theorem insert_op {t k e : TypeId} {m kx x : Operand} {b : Nat} {q n : Int} {L : List (Int × Int)} (ho : o.op = .insert t m kx x) (ht : P.underlying t = some (.map k e)) (hk : P.underlying k = some (.int .i64))
  (hm : a.eval m = .map (some b)) (hq : a.eval kx = .int .i64 q) (hx : a.eval x = .int .i64 n) (hM : MapAt w b L)
  (h : ∀ w', MapAt w' b (mput L q n) → Onto b w w' → K (a.put o.dst undef) w') : o.wp P a w K Q := by
 obtain ⟨w', hr, h1, h2, h3⟩ := run_put (P := P) ht hk hM q n
 unfold Oper.wp execOp
 simp only [ho, hm, hq, hx, Sem.run_bind, Result.andThen_ok, hr]
 exact h _ h1 h2
end
end Go.Proofs.YtghmkacamabndaaGreatDoor.Reg
namespace Go.Proofs.YtghmkacamabndaaGreatDoor.Reg
open Go.RowKit Base

def MonoF (ops : Array Oper) (T : Nat → (Nat → Value) → World → Prop) (R : Nat → (Nat → Value) → World → World → Prop) : Prop :=
 ∀ (L : Nat → Bool) (i j : Nat) (oi oj : Oper) (f f' : Nat → Value) (w w' : World), ops[i]? = some oi → ops[j]? = some oj → L i = false → L j = true → (∀ d ∈ deps oj, L d = true) →
  (∀ k, oi.dst ≠ some k → f' k = f k) → T j f w → R i f' w w' → T j f' w'

section
variable {P : Program} {ops : Array Oper} {Q : Exit → Act → World → Prop} {G : World → Prop} {T : Nat → (Nat → Value) → World → Prop} {R : Nat → (Nat → Value) → World → World → Prop} {a0 a : Act} {L : Nat → Bool} {w w' : World} {i : Nat} {o : Oper} {v : Value}
theorem InvG.nextF (h : InvG ops G T a0 L a w) (mono : MonoF ops T R) (ho : ops[i]? = some o) (hL : L i = false)
  (hr : ∀ d ∈ deps o, L d = true) (hT : T i (at_ (a.put o.dst v)) w') (hG : G w') (hR : R i (at_ (a.put o.dst v)) w w') : InvG ops G T a0 (fun j => L j || j == i) (a.put o.dst v) w' where
 g := hG
 defers := (put_defers _ _ _).trans h.defers
 size := (put_size _ _ _).trans h.size
 told := fun j oj hj hl => by
  by_cases hji : j = i
  ·subst hji; exact hT
  ·have hl' : L j = true := by simpa [hji] using hl
   exact mono L i j o oj (at_ a) _ w w' ho hj hL hl' (fun d hd => h.closed j oj d hj hl' hd) (fun k hk => getD_put _ _ _ _ hk) (h.told j oj hj hl') hR
 rest := fun k hk => by
  have hne : o.dst ≠ some k := fun e => hk i (by simp) (by rw [ho]; exact e)
  rw [getD_put _ _ _ _ hne]
  exact h.rest k (fun j hj => hk j (by simp [hj]))
 closed := fun j o' d hj hl hd' => by
  by_cases e : j = i
  ·subst e
   rw [ho] at hj; cases hj
   simp [hr d hd']
  ·have hl' : L j = true := by simpa [e] using hl
   simp [h.closed j o' d hj hl' hd']
theorem any_genF (hac : acyc ops = true) (mono : MonoF ops T R)
  (step : ∀ (L : Nat → Bool) (i : Nat) (o : Oper) (a : Act) (w : World), ops[i]? = some o → InvG ops G T a0 L a w → L i = false → (∀ d ∈ deps o, L d = true) →
   wpOp P ops Q i (fun a' w' => ∃ v, a' = a.put o.dst v ∧ T i (at_ (a.put o.dst v)) w' ∧ G w' ∧ R i (at_ (a.put o.dst v)) w w') a w)
  (done : ∀ a w, InvG ops G T a0 (fun _ => true) a w → Q .normal a w) :
  ∀ (fuel : Nat) (listed : Array Bool) (a : Act) (w : World), listed.size = ops.size → left ops.size listed ≤ fuel → InvG ops G T a0 (fun j => listed.getD j false) a w → wpAny P .any ops Q fuel listed a w := by
 have fin : ∀ (listed : Array Bool) (a : Act) (w : World), listed.size = ops.size → Region.ready .any ops listed = [] → InvG ops G T a0 (fun j => listed.getD j false) a w → Q .normal a w := fun listed a w hs hr hI => by
  refine done a w ?_
  have hall := all_listed hac hr hs
  have hL : ∀ j o, ops[j]? = some o → listed.getD j false = true := fun j o hj => by
   have hjs : j < ops.size := by
    by_cases hl : j < ops.size
    ·exact hl
    ·have e : ops[j]? = none := by simp; omega
     rw [e] at hj; cases hj
   have := hall j hjs
   have hjl : j < listed.size := by omega
   simpa [Array.getD_eq_getD_getElem?, Array.getElem?_eq_getElem hjl] using this
  exact ⟨hI.g, hI.defers, hI.size, fun j o hj _ => hI.told j o hj (hL j o hj), fun k hk => hI.rest k (fun j hj => hk j rfl), fun _ _ _ _ _ _ => rfl⟩
 intro fuel
 induction fuel with
 | zero =>
  intro listed a w hs hf hI
  have hr : Region.ready .any ops listed = [] := by
   refine List.eq_nil_iff_forall_not_mem.2 fun i hi => ?_
   obtain ⟨h1, h2, _⟩ := mem_ready.1 hi
   have h0 : left ops.size listed = 0 := by omega
   have := (List.countP_eq_zero.1 h0) i (List.mem_range.2 h1)
   simp [h2] at this
  exact ⟨hr, fin listed a w hs hr hI⟩
 | succ fuel ih =>
  intro listed a w hs hf hI
  refine ⟨fun hr => fin listed a w hs hr hI, fun i hi => ?_⟩
  obtain ⟨h1, h2, o, ho, h3⟩ := mem_ready.1 hi
  have hil : i < listed.size := by omega
  have hLi : listed.getD i false = false := by
   simpa [Array.getD_eq_getD_getElem?, Array.getElem?_eq_getElem hil] using h2
  refine wpOp_mono ?_ (step (fun j => listed.getD j false) i o a w ho hI hLi h3)
  rintro a' w' ⟨v, rfl, hT, hG, hR⟩
  refine ih _ _ _ (by simpa using hs) ?_ ?_
  ·have hlt : left ops.size (listed.setIfInBounds i true) < left ops.size listed := by
    refine countP_lt (x := i) (fun x hx => ?_) (List.mem_range.2 h1) (by simp [h2]) ?_
    ·by_cases hxi : x = i
     ·subst hxi; simp [h2]
     ·simpa [Array.getD_eq_getD_getElem?, Array.getElem?_setIfInBounds, Ne.symm hxi] using hx
    ·simp [Array.getD_eq_getD_getElem?, hil]
   omega
  ·have hI' := hI.nextF mono ho hLi h3 hT hG hR
   have e : (fun j => (listed.setIfInBounds i true).getD j false) = fun j => listed.getD j false || j == i := by
    funext j
    by_cases hj : j = i
    ·subst hj; simp [Array.getD_eq_getD_getElem?, hil]
    ·simp [Array.getD_eq_getD_getElem?, Ne.symm hj, hj]
   rw [e]
   exact hI'
theorem region_genF {id : Nat} (hm : P.follows .mixedOrders = true) (hac : acyc ops = true) (G : World → Prop) (T : Nat → (Nat → Value) → World → Prop) (R : Nat → (Nat → Value) → World → World → Prop)
  (mono : MonoF ops T R) (hG : G w.drew)
  (step : ∀ (L : Nat → Bool) (i : Nat) (o : Oper) (a : Act) (w : World), ops[i]? = some o → InvG ops G T a0 L a w → L i = false → (∀ d ∈ deps o, L d = true) →
   wpOp P ops Q i (fun a' w' => ∃ v, a' = a.put o.dst v ∧ T i (at_ (a.put o.dst v)) w' ∧ G w' ∧ R i (at_ (a.put o.dst v)) w w') a w)
  (done : ∀ a w, InvG ops G T a0 (fun _ => true) a w → Q .normal a w) : (Code.region id ops true).wp P Q a0 w := by
 have no : ∀ j, (Array.replicate ops.size false).getD j false = true → False := fun j hl => by
  by_cases hj : j < ops.size
  ·simp [Array.getD_eq_getD_getElem?, hj] at hl
  ·simp [Array.getD_eq_getD_getElem?, hj] at hl
 exact wp_region_any hm (any_genF hac mono step done ops.size _ a0 w.drew (by simp) (by
  refine Nat.le_trans List.countP_le_length ?_
  simp) ⟨hG, rfl, rfl, fun j o _ hl => (no j hl).elim, fun _ _ => rfl, fun j o d _ hl _ => (no j hl).elim⟩)
end
end Go.Proofs.YtghmkacamabndaaGreatDoor.Reg
namespace Go.Proofs.YtghmkacamabndaaGreatDoor.Reg
open Go.RowKit Base

structure InvS (ops : Array Oper) (s : Nat) (G : Bool → World → Prop) (T : Nat → (Nat → Value) → World → Prop) (a0 : Act) (L : Nat → Bool) (a : Act) (w : World) : Prop where
 g : G (L s) w
 defers : a.defers = a0.defers
 size : a.tmps.size = a0.tmps.size
 told : ∀ j o, ops[j]? = some o → L j = true → T j (at_ a) w
 rest : ∀ k, (∀ j, L j = true → (ops[j]?).bind (·.dst) ≠ some k) → a.tmps.getD k undef = a0.tmps.getD k undef
 closed : ∀ j o d, ops[j]? = some o → L j = true → d ∈ deps o → L d = true
section
variable {P : Program} {ops : Array Oper} {Q : Exit → Act → World → Prop} {s : Nat} {G : Bool → World → Prop} {T : Nat → (Nat → Value) → World → Prop} {R : Nat → (Nat → Value) → World → World → Prop} {a0 a : Act} {L : Nat → Bool} {w w' : World} {i : Nat} {o : Oper} {v : Value}
theorem InvS.nextS (h : InvS ops s G T a0 L a w) (mono : MonoF ops T R) (ho : ops[i]? = some o) (hL : L i = false)
  (hr : ∀ d ∈ deps o, L d = true) (hT : T i (at_ (a.put o.dst v)) w') (hG : G (L s || s == i) w') (hR : R i (at_ (a.put o.dst v)) w w') : InvS ops s G T a0 (fun j => L j || j == i) (a.put o.dst v) w' where
 g := hG
 defers := (put_defers _ _ _).trans h.defers
 size := (put_size _ _ _).trans h.size
 told := fun j oj hj hl => by
  by_cases hji : j = i
  ·subst hji; exact hT
  ·have hl' : L j = true := by simpa [hji] using hl
   exact mono L i j o oj (at_ a) _ w w' ho hj hL hl' (fun d hd => h.closed j oj d hj hl' hd) (fun k hk => getD_put _ _ _ _ hk) (h.told j oj hj hl') hR
 rest := fun k hk => by
  have hne : o.dst ≠ some k := fun e => hk i (by simp) (by rw [ho]; exact e)
  rw [getD_put _ _ _ _ hne]
  exact h.rest k (fun j hj => hk j (by simp [hj]))
 closed := fun j o' d hj hl hd' => by
  by_cases e : j = i
  ·subst e
   rw [ho] at hj; cases hj
   simp [hr d hd']
  ·have hl' : L j = true := by simpa [e] using hl
   simp [h.closed j o' d hj hl' hd']
theorem any_genS (hss : s < ops.size) (hac : acyc ops = true) (mono : MonoF ops T R)
  (step : ∀ (L : Nat → Bool) (i : Nat) (o : Oper) (a : Act) (w : World), ops[i]? = some o → InvS ops s G T a0 L a w → L i = false → (∀ d ∈ deps o, L d = true) →
   wpOp P ops Q i (fun a' w' => ∃ v, a' = a.put o.dst v ∧ T i (at_ (a.put o.dst v)) w' ∧ G (L s || s == i) w' ∧ R i (at_ (a.put o.dst v)) w w') a w)
  (done : ∀ a w, InvS ops s G T a0 (fun _ => true) a w → Q .normal a w) :
  ∀ (fuel : Nat) (listed : Array Bool) (a : Act) (w : World), listed.size = ops.size → left ops.size listed ≤ fuel → InvS ops s G T a0 (fun j => listed.getD j false) a w → wpAny P .any ops Q fuel listed a w := by
 have fin : ∀ (listed : Array Bool) (a : Act) (w : World), listed.size = ops.size → Region.ready .any ops listed = [] → InvS ops s G T a0 (fun j => listed.getD j false) a w → Q .normal a w := fun listed a w hs hr hI => by
  refine done a w ?_
  have hall := all_listed hac hr hs
  have hL : ∀ j o, ops[j]? = some o → listed.getD j false = true := fun j o hj => by
   have hjs : j < ops.size := by
    by_cases hl : j < ops.size
    ·exact hl
    ·have e : ops[j]? = none := by simp; omega
     rw [e] at hj; cases hj
   have := hall j hjs
   have hjl : j < listed.size := by omega
   simpa [Array.getD_eq_getD_getElem?, Array.getElem?_eq_getElem hjl] using this
  have hg1 : G true w := by
   have hall' := hall s hss
   have h1 := hI.g
   have hjl : s < listed.size := by omega
   have e : listed.getD s false = true := by simpa [Array.getD_eq_getD_getElem?, Array.getElem?_eq_getElem hjl] using hall'
   rw [e] at h1; exact h1
  exact ⟨hg1, hI.defers, hI.size, fun j o hj _ => hI.told j o hj (hL j o hj), fun k hk => hI.rest k (fun j hj => hk j rfl), fun _ _ _ _ _ _ => rfl⟩
 intro fuel
 induction fuel with
 | zero =>
  intro listed a w hs hf hI
  have hr : Region.ready .any ops listed = [] := by
   refine List.eq_nil_iff_forall_not_mem.2 fun i hi => ?_
   obtain ⟨h1, h2, _⟩ := mem_ready.1 hi
   have h0 : left ops.size listed = 0 := by omega
   have := (List.countP_eq_zero.1 h0) i (List.mem_range.2 h1)
   simp [h2] at this
  exact ⟨hr, fin listed a w hs hr hI⟩
 | succ fuel ih =>
  intro listed a w hs hf hI
  refine ⟨fun hr => fin listed a w hs hr hI, fun i hi => ?_⟩
  obtain ⟨h1, h2, o, ho, h3⟩ := mem_ready.1 hi
  have hil : i < listed.size := by omega
  have hLi : listed.getD i false = false := by
   simpa [Array.getD_eq_getD_getElem?, Array.getElem?_eq_getElem hil] using h2
  refine wpOp_mono ?_ (step (fun j => listed.getD j false) i o a w ho hI hLi h3)
  rintro a' w' ⟨v, rfl, hT, hG, hR⟩
  refine ih _ _ _ (by simpa using hs) ?_ ?_
  ·have hlt : left ops.size (listed.setIfInBounds i true) < left ops.size listed := by
    refine countP_lt (x := i) (fun x hx => ?_) (List.mem_range.2 h1) (by simp [h2]) ?_
    ·by_cases hxi : x = i
     ·subst hxi; simp [h2]
     ·simpa [Array.getD_eq_getD_getElem?, Array.getElem?_setIfInBounds, Ne.symm hxi] using hx
    ·simp [Array.getD_eq_getD_getElem?, hil]
   omega
  ·have hI' := hI.nextS mono ho hLi h3 hT hG hR
   have e : (fun j => (listed.setIfInBounds i true).getD j false) = fun j => listed.getD j false || j == i := by
    funext j
    by_cases hj : j = i
    ·subst hj; simp [Array.getD_eq_getD_getElem?, hil]
    ·simp [Array.getD_eq_getD_getElem?, Ne.symm hj, hj]
   rw [e]
   exact hI'
theorem region_genS {id : Nat} (hm : P.follows .mixedOrders = true) (hac : acyc ops = true) (s : Nat) (hss : s < ops.size) (G : Bool → World → Prop) (T : Nat → (Nat → Value) → World → Prop) (R : Nat → (Nat → Value) → World → World → Prop)
  (mono : MonoF ops T R) (hG : G false w.drew)
  (step : ∀ (L : Nat → Bool) (i : Nat) (o : Oper) (a : Act) (w : World), ops[i]? = some o → InvS ops s G T a0 L a w → L i = false → (∀ d ∈ deps o, L d = true) →
   wpOp P ops Q i (fun a' w' => ∃ v, a' = a.put o.dst v ∧ T i (at_ (a.put o.dst v)) w' ∧ G (L s || s == i) w' ∧ R i (at_ (a.put o.dst v)) w w') a w)
  (done : ∀ a w, InvS ops s G T a0 (fun _ => true) a w → Q .normal a w) : (Code.region id ops true).wp P Q a0 w := by
 have no : ∀ j, (Array.replicate ops.size false).getD j false = true → False := fun j hl => by
  by_cases hj : j < ops.size
  ·simp [Array.getD_eq_getD_getElem?, hj] at hl
  ·simp [Array.getD_eq_getD_getElem?, hj] at hl
 have hg0 : G ((Array.replicate ops.size false).getD s false) w.drew := by
  have e : (Array.replicate ops.size false).getD s false = false := by simp [Array.getD_eq_getD_getElem?, hss]
  rw [e]; exact hG
 exact wp_region_any hm (any_genS hss hac mono step done ops.size _ a0 w.drew (by simp) (by
  refine Nat.le_trans List.countP_le_length ?_
  simp) ⟨hg0, rfl, rfl, fun j o _ hl => (no j hl).elim, fun _ _ => rfl, fun j o d _ hl _ => (no j hl).elim⟩)
theorem InvS.get (h : InvS ops s G T a0 L a w) (hr : ∀ d ∈ deps o, L d = true) (j : Nat) {oj : Oper} (hj : ops[j]? = some oj) (hd : (deps o).contains j = true) : T j (at_ a) w :=
 h.told j oj hj (hr j (by simpa using hd))
theorem InvS.old (h : InvS ops s G T a0 L a w) (k : Nat) (hk : (ops.all fun o => o.dst != some k) = true) : a.tmps.getD k undef = a0.tmps.getD k undef :=
 h.rest k fun j _ e => by
  cases hj : ops[j]? with
  | none => simp [hj] at e
  | some o =>
   have h1 := (Array.all_eq_true_iff_forall_mem.1 hk) o (Array.mem_of_getElem? hj)
   simp [hj] at e
   simp [e] at h1
end
end Go.Proofs.YtghmkacamabndaaGreatDoor.Reg
namespace Go.Proofs.YtghmkacamabndaaGreatDoor.Reg
open Go.RowKit Base

def wider (ops : Array Oper) : Nat → List Nat → List Nat
 | 0, l => l
 | n + 1, l => wider ops n ((List.range ops.size).filter fun i => l.contains i || l.any fun j => match ops[j]? with
  | some o => (deps o).contains i
  | none => false)
def waitsAll (ops : Array Oper) (s : Nat) : Bool := (List.range ops.size).all fun i => (wider ops ops.size [s]).contains i
theorem wider_listed {ops : Array Oper} {L : Nat → Bool} (h : ∀ j o d, ops[j]? = some o → L j = true → d ∈ deps o → L d = true) : ∀ (n : Nat) (l : List Nat), (∀ i ∈ l, L i = true) → ∀ i ∈ wider ops n l, L i = true
 | 0, l, hl, i, hi => hl i hi
 | n + 1, l, hl, i, hi => by
  refine wider_listed h n _ (fun j hj => ?_) i hi
  rw [List.mem_filter] at hj
  have h2 := hj.2
  rw [Bool.or_eq_true] at h2
  rcases h2 with h2 | h2
  ·exact hl j (List.contains_iff_mem.1 h2)
  ·obtain ⟨x, hx, hd⟩ := List.any_eq_true.1 h2
   cases hq : ops[x]? with
   | none => simp [hq] at hd
   | some o =>
    simp only [hq] at hd
    exact h x o j hq (hl x hx) (List.contains_iff_mem.1 hd)
def knownT (ops : Array Oper) (vals : List Value) (j : Nat) (f : Nat → Value) (W : World) : Prop := ∀ k, (ops[j]?).bind (·.dst) = some k → f k = vals.getD j undef
section
variable {P : Program} {ops : Array Oper} {Q : Exit → Act → World → Prop} {s : Nat} {a0 a : Act} {L : Nat → Bool} {w w' : World} {i : Nat} {o : Oper} {v : Value} {vals : List Value}
theorem mono_known {n : Nat} (hds : dstOk ops n = true) : MonoF ops (knownT ops vals) (fun _ _ _ _ => True) := by
 intro L i j oi oj f f' w w' hi hj hLi hLj _ hf hT _ k hk
 rw [hf k (fun e => ?_)]
 ·exact hT k hk
 ·have : i = j := dst_one hds (by rw [hi]; exact e) hk
  rw [this, hLj] at hLi; cases hLi
theorem region_known {id : Nat} (hm : P.follows .mixedOrders = true) (hac : acyc ops = true) (s : Nat) (hss : s < ops.size) (hds : dstOk ops a0.tmps.size = true) (G : Bool → World → Prop) (vals : List Value) (hG : G false w.drew)
  (step : ∀ (L : Nat → Bool) (i : Nat) (o : Oper) (a : Act) (w : World), ops[i]? = some o → InvS ops s G (knownT ops vals) a0 L a w → L i = false → (∀ d ∈ deps o, L d = true) →
   wpOp P ops Q i (fun a' w' => ∃ v, a' = a.put o.dst v ∧ v = vals.getD i undef ∧ G (L s || s == i) w') a w)
  (done : ∀ a w, InvS ops s G (knownT ops vals) a0 (fun _ => true) a w → Q .normal a w) : (Code.region id ops true).wp P Q a0 w := by
 refine region_genS hm hac s hss G (knownT ops vals) (fun _ _ _ _ => True) (mono_known hds) hG ?_ done
 intro L i o a w hi hI hL hd
 refine wpOp_mono ?_ (step L i o a w hi hI hL hd)
 rintro a' w' ⟨v, rfl, hv, hg⟩
 refine ⟨v, rfl, fun k hk => ?_, hg, trivial⟩
 rw [hi] at hk
 have hk' : o.dst = some k := hk
 have hlt : k < a0.tmps.size := dst_lt hds (i := i) (by rw [hi]; exact hk')
 rw [hk']
 show (a.put (some k) v).tmps.getD k undef = _
 rw [getD_put_same _ _ _ (by rw [hI.size]; exact hlt)]
 exact hv
theorem InvS.val {G : Bool → World → Prop} (h : InvS ops s G (knownT ops vals) a0 L a w) (hr : ∀ d ∈ deps o, L d = true) (j k : Nat) {oj : Oper} (hj : ops[j]? = some oj) (hk : oj.dst = some k) (hd : (deps o).contains j = true) : a.eval (.tmp k) = vals.getD j undef :=
 (h.get hr j hj hd) k (by rw [hj]; exact hk)
theorem InvS.last {G : Bool → World → Prop} (h : InvS ops s G (knownT ops vals) a0 (fun _ => true) a w) (j k : Nat) (hj : (ops[j]?).bind (·.dst) = some k) : a.tmps.getD k undef = vals.getD j undef := by
 cases hq : ops[j]? with
 | none => simp [hq] at hj
 | some oj => exact (h.told j oj hq rfl) k hj
def ge (G E : World → Prop) (b : Bool) (W : World) : Prop := if b = true then E W else G W
theorem region_last {id : Nat} (hm : P.follows .mixedOrders = true) (hac : acyc ops = true) (s : Nat) (hss : s < ops.size) (hall : waitsAll ops s = true) (hds : dstOk ops a0.tmps.size = true) (G E : World → Prop) (vals : List Value) (hG : G w.drew)
  (step : ∀ (L : Nat → Bool) (i : Nat) (o : Oper) (a : Act) (w : World), i ≠ s → ops[i]? = some o → InvS ops s (ge G E) (knownT ops vals) a0 L a w → G w → (∀ d ∈ deps o, L d = true) →
   wpOp P ops Q i (fun a' w' => ∃ v, a' = a.put o.dst v ∧ v = vals.getD i undef ∧ G w') a w)
  (last : ∀ (L : Nat → Bool) (o : Oper) (a : Act) (w : World), ops[s]? = some o → InvS ops s (ge G E) (knownT ops vals) a0 L a w → G w → (∀ d ∈ deps o, L d = true) →
   wpOp P ops Q s (fun a' w' => ∃ v, a' = a.put o.dst v ∧ v = vals.getD s undef ∧ E w') a w)
  (done : ∀ a w, InvS ops s (ge G E) (knownT ops vals) a0 (fun _ => true) a w → E w → Q .normal a w) : (Code.region id ops true).wp P Q a0 w := by
 refine region_known hm hac s hss hds (ge G E) vals (by simpa [ge] using hG) ?_ (fun a w hI => done a w hI (by simpa [ge] using hI.g))
 intro L i o a w hi hI hL hd
 have hil : i < ops.size := by
  by_cases hl : i < ops.size
  ·exact hl
  ·have e : ops[i]? = none := by simp; omega
   rw [e] at hi; cases hi
 have hLs : L s = false := by
  cases hq : L s with
  | false => rfl
  | true =>
   have h1 := List.all_eq_true.1 hall i (List.mem_range.2 hil)
   have := wider_listed (L := L) hI.closed ops.size [s] (fun j hj => by simp at hj; rw [hj]; exact hq) i (List.contains_iff_mem.1 h1)
   rw [this] at hL; cases hL
 have hg : G w := by have := hI.g; simpa [ge, hLs] using this
 by_cases e : i = s
 ·subst e
  refine wpOp_mono ?_ (last L o a w hi hI hg hd)
  rintro a' w' ⟨v, rfl, hv, he⟩
  exact ⟨v, rfl, hv, by simpa [ge] using he⟩
 ·refine wpOp_mono ?_ (step L i o a w e hi hI hg hd)
  rintro a' w' ⟨v, rfl, hv, he⟩
  exact ⟨v, rfl, hv, by simpa [ge, hLs, Ne.symm e] using he⟩
theorem nil_op {x : Operand} {K : Act → World → Prop} {ad : Addr} (ho : o.op = .nilCheck x) (hx : a.eval x = .pointer (some ad)) (h : K (a.put o.dst (.pointer (some ad))) w) : o.wp P a w K Q := by
 refine val_op ?_ h
 unfold execOp
 simp only [ho, hx]
 simp [go_sem]
end
def putAll (f : Nat → Value) (ks : List Nat) (t : Array Value) : Array Value := ks.foldl (fun t k => t.setIfInBounds k (f k)) t
theorem putAll_size (f : Nat → Value) : ∀ (ks : List Nat) (t : Array Value), (putAll f ks t).size = t.size
 | [], t => rfl
 | k :: ks, t => (putAll_size f ks _).trans (by simp)
theorem putAll_get (f : Nat → Value) : ∀ (ks : List Nat) (t : Array Value) (k : Nat), k < t.size → (putAll f ks t).getD k undef = if k ∈ ks then f k else t.getD k undef
 | [], t, k, _ => by simp [putAll]
 | j :: ks, t, k, hk => by
  have ih := putAll_get f ks (t.setIfInBounds j (f j)) k (by simpa using hk)
  have e : putAll f (j :: ks) t = putAll f ks (t.setIfInBounds j (f j)) := rfl
  rw [e, ih]
  by_cases hm : k ∈ ks
  ·simp [hm]
  ·by_cases hj : k = j
   ·subst hj
    simp [hm, Array.getD_eq_getD_getElem?, hk]
   ·have hj' : ¬ j = k := fun e => hj e.symm
    simp [hm, hj, hj', Array.getD_eq_getD_getElem?]
theorem frame_of {A a0 : Act} {ks : List Nat} (hs : A.tmps.size = a0.tmps.size) (hd : A.defers = a0.defers) (hr : ∀ k, k ∉ ks → A.tmps.getD k undef = a0.tmps.getD k undef) : A = ⟨putAll (fun k => A.tmps.getD k undef) ks a0.tmps, a0.defers⟩ := by
 obtain ⟨t, d⟩ := A
 simp only at hs hd hr
 subst hd
 congr 1
 apply Array.ext_getElem?
 intro k
 by_cases hk : k < t.size
 ·have h1 := putAll_get (fun k => t.getD k undef) ks a0.tmps k (by omega)
  have h2 : (putAll (fun k => t.getD k undef) ks a0.tmps).getD k undef = t.getD k undef := by
   rw [h1]
   by_cases hm : k ∈ ks
   ·simp [hm]
   ·rw [if_neg hm]; exact (hr k hm).symm
  have hp : k < (putAll (fun k => t.getD k undef) ks a0.tmps).size := by rw [putAll_size]; omega
  rw [Array.getD_eq_getD_getElem?, Array.getD_eq_getD_getElem?, Array.getElem?_eq_getElem hp, Array.getElem?_eq_getElem hk] at h2
  rw [Array.getElem?_eq_getElem hp, Array.getElem?_eq_getElem hk]
  exact congrArg some h2.symm
 ·have e1 : t[k]? = none := by simp; omega
  have e2 : (putAll (fun k => t.getD k undef) ks a0.tmps)[k]? = none := by simp [putAll_size]; omega
  rw [e1, e2]
section
variable {ops : Array Oper} {G : World → Prop} {T : Nat → Value → World → Prop} {T' : Nat → (Nat → Value) → World → Prop} {a0 a : Act} {L : Nat → Bool} {w : World}
def dsts (ops : Array Oper) (ks : List Nat) : Bool := ops.all fun o => match o.dst with | some k => ks.contains k | none => true
theorem dsts_not {ks : List Nat} (h : dsts ops ks = true) {k : Nat} (hk : k ∉ ks) (j : Nat) : (ops[j]?).bind (·.dst) ≠ some k := fun e => by
 cases hj : ops[j]? with
 | none => simp [hj] at e
 | some o =>
  have h1 := (Array.all_eq_true_iff_forall_mem.1 h) o (Array.mem_of_getElem? hj)
  simp [hj] at e
  rw [e] at h1
  exact hk (by simpa using h1)
theorem Inv.frame (h : Inv ops G T a0 L a w) (ks : List Nat) (hks : dsts ops ks = true) : a = ⟨putAll (fun k => a.tmps.getD k undef) ks a0.tmps, a0.defers⟩ :=
 frame_of h.size h.defers fun k hk => h.rest k fun j _ => dsts_not hks hk j
theorem InvG.frame (h : InvG ops G T' a0 L a w) (ks : List Nat) (hks : dsts ops ks = true) : a = ⟨putAll (fun k => a.tmps.getD k undef) ks a0.tmps, a0.defers⟩ :=
 frame_of h.size h.defers fun k hk => h.rest k fun j _ => dsts_not hks hk j
end
section
variable {ops : Array Oper} {s : Nat} {G : Bool → World → Prop} {T : Nat → (Nat → Value) → World → Prop} {a0 a : Act} {L : Nat → Bool} {w : World}
theorem InvS.frame (h : InvS ops s G T a0 L a w) (ks : List Nat) (hks : dsts ops ks = true) : a = ⟨putAll (fun k => a.tmps.getD k undef) ks a0.tmps, a0.defers⟩ :=
 frame_of h.size h.defers fun k hk => h.rest k fun j _ => dsts_not hks hk j
end
end Go.Proofs.YtghmkacamabndaaGreatDoor.Reg
namespace Go.Proofs.YtghmkacamabndaaGreatDoor.Reg
open Go.RowKit Base

end Go.Proofs.YtghmkacamabndaaGreatDoor.Reg
namespace Go.Proofs.YtghmkacamabndaaGreatDoor.Mem
open Go.ChangeShapes Go.WideShapes Go.RowKit Base Num Slc Slf Rw Tmr Reg

theorem fitsTo_succ (l : List M3) (k : Nat) : fitsTo l (k + 1) = (fitsTo l k && fits l k) := by
 simp [fitsTo, List.range_succ, List.all_append]
theorem fitsTo_no {l : List M3} {k n : Nat} (hk : k < n) (h : fits l k = false) : fitsTo l n = false := by
 simp only [fitsTo]
 rw [List.all_eq_false]
 exact ⟨k, List.mem_range.2 hk, by simp [h]⟩
structure Gi (w : World) (v : Value) (l : List M3) (W : World) : Prop where
 sl : SlF fM W v l
 bel : Below w.heap.size w W
theorem Gi.below {w W W' : World} {v : Value} {l : List M3} (h : Gi w v l W) (hb : Below W.heap.size W W') : Gi w v l W' := ⟨h.sl.below hb, below_more h.bel hb⟩
theorem Gi.drew {w W : World} {v : Value} {l : List M3} (h : Gi w v l W) : Gi w v l W.drew := h.below (drew_below (n := 1) rfl)
set_option maxRecDepth 20000 in
set_option maxHeartbeats 1000000 in
theorem inboxOk_spec (v : Value) (l : List M3) (w : World) (h : SlF fM w v l) :
  Calls Tryz.prog 18 #[v] w fun e w' => e = .returned (.bool (inboxOk l)) ∧ Below w.heap.size w w' := by
 by_cases h0 : 0 < l.length
 ·obtain ⟨b, off, c, rfl, hbl, hlc, hcm⟩ := h.shape h0
  unfold maxLen at hcm
  have hG : Gi w (.slice (some ⟨b, off, none⟩) l.length c) l w := ⟨h, Below.refl _ _⟩
  clear h hbl
  go_enter Tryz.func18, Tryz.ntmps18
  go_wp2_with fail
  go_loopw [3] (fun i wr => ∃ k : Nat, k ≤ l.length ∧ i = .int .i64 k ∧ fitsTo l k = true ∧ Gi w (.slice (some ⟨b, off, none⟩) l.length c) l wr) (fun i _ => l.length - (intOf i).toNat)
  case atStart => exact ⟨0, Nat.zero_le _, rfl, rfl, hG⟩
  case round =>
   clear hG
   obtain ⟨k, hk, rfl, hft, hG⟩ := hrel
   by_cases hlt' : k < l.length
   ·cases hok : (M3.at' l k).ok
    ·have HF : Hid (inboxOk l = false) := show _ = _ by unfold inboxOk; rw [fitsTo_no hlt' (by unfold fits; rw [hok]; rfl)]; rfl
     go_wp2_with fail
     refine region_known (by kernel_rfl) (by kernel_rfl) 0 (by decide) (by kernel_rfl) (fun _ W => Gi w (.slice (some ⟨b, off, none⟩) l.length c) l W) [.slice (some ⟨b, off, none⟩) l.length c, .int .i64 (k : Int), .pointer (some ⟨b, off + k * 3, none⟩), (M3.at' l k).val, .bool false, .bool true, .bool true, undef, undef, undef, undef, undef, undef, undef, undef, undef, undef, undef, undef, undef, undef, .bool true] hG.drew ?step ?done
     case step =>
      intro L ix o' A W hj hI hL hd
      have hin : ix < 22 := by
       by_cases hl : ix < 22
       ·exact hl
       ·simp [hl] at hj
      have hsz : A.tmps.size = 35 := hI.size
      have hg := hI.g
      rcases ix with _ | _ | _ | _ | _ | _ | _ | _ | _ | _ | _ | _ | _ | _ | _ | _ | _ | _ | _ | _ | _ | _ | ix
      ·cases hj; exact at_op rfl rfl (move_op rfl ⟨_, rfl, hI.old 0 (by kernel_rfl), hg⟩)
      ·cases hj; exact at_op rfl rfl (move_op rfl ⟨_, rfl, hI.old 3 (by kernel_rfl), hg⟩)
      ·cases hj
       have e0 : A.eval (.tmp 10) = .slice (some ⟨b, off, none⟩) l.length c := hI.val hd 0 10 rfl rfl (by kernel_rfl)
       have e1 : A.eval (.tmp 11) = .int .i64 (k : Int) := hI.val hd 1 11 rfl rfl (by kernel_rfl)
       exact at_op rfl rfl (ixF_op okM rfl e0 e1 (by omega) ⟨_, rfl, rfl, hg⟩)
      ·cases hj
       have e0 : A.eval (.tmp 12) = .pointer (some ⟨b, off + k * 3, none⟩) := hI.val hd 2 12 rfl rfl (by kernel_rfl)
       exact at_op rfl rfl (elF_op okM rfl e0 (hg.sl.range okM (at_some (by omega))) ⟨_, rfl, rfl, hg⟩)
      ·cases hj
       have e0 : A.eval (.tmp 13) = (M3.at' l k).val := hI.val hd 3 13 rfl rfl (by kernel_rfl)
       refine at_op rfl rfl (call_op rfl Tryz.func67 (by kernel_rfl) (by kernel_rfl) ?_)
       simp only [List.map_cons, List.map_nil, e0]
       refine (l9MsgOk_spec _ _).mono ?_
       rw [hok]
       rintro e W1 ⟨rfl, hb⟩
       exact ⟨_, rfl, _, rfl, rfl, hg.below hb⟩
      ·cases hj; exact at_op rfl rfl (one_op (hI.val hd 4 14 rfl rfl (by kernel_rfl)) rfl (by kernel_rfl) ⟨_, rfl, rfl, hg⟩)
      ·cases hj; exact at_op rfl rfl (move_op rfl ⟨_, rfl, hI.val hd 5 15 rfl rfl (by kernel_rfl), hg⟩)
      ·cases hj
       have hgv : A.tmps.getD 16 undef = .bool true := hI.val hd 6 16 rfl rfl (by kernel_rfl)
       exact at_skip rfl rfl (j := 6) (k := 16) rfl (by rw [hgv]; simp [undef]) ⟨_, rfl, rfl, hg⟩
      ·cases hj
       have hgv : A.tmps.getD 16 undef = .bool true := hI.val hd 6 16 rfl rfl (by kernel_rfl)
       exact at_skip rfl rfl (j := 6) (k := 16) rfl (by rw [hgv]; simp [undef]) ⟨_, rfl, rfl, hg⟩
      ·cases hj
       have hgv : A.tmps.getD 16 undef = .bool true := hI.val hd 6 16 rfl rfl (by kernel_rfl)
       exact at_skip rfl rfl (j := 6) (k := 16) rfl (by rw [hgv]; simp [undef]) ⟨_, rfl, rfl, hg⟩
      ·cases hj
       have hgv : A.tmps.getD 19 undef = undef := hI.val hd 9 19 rfl rfl (by kernel_rfl)
       exact at_skip rfl rfl (j := 9) (k := 19) rfl (by rw [hgv]; simp [undef]) ⟨_, rfl, rfl, hg⟩
      ·cases hj
       have hgv : A.tmps.getD 19 undef = undef := hI.val hd 9 19 rfl rfl (by kernel_rfl)
       exact at_skip rfl rfl (j := 9) (k := 19) rfl (by rw [hgv]; simp [undef]) ⟨_, rfl, rfl, hg⟩
      ·cases hj
       have hgv : A.tmps.getD 19 undef = undef := hI.val hd 9 19 rfl rfl (by kernel_rfl)
       exact at_skip rfl rfl (j := 9) (k := 19) rfl (by rw [hgv]; simp [undef]) ⟨_, rfl, rfl, hg⟩
      ·cases hj
       have hgv : A.tmps.getD 19 undef = undef := hI.val hd 9 19 rfl rfl (by kernel_rfl)
       exact at_skip rfl rfl (j := 9) (k := 19) rfl (by rw [hgv]; simp [undef]) ⟨_, rfl, rfl, hg⟩
      ·cases hj
       have hgv : A.tmps.getD 19 undef = undef := hI.val hd 9 19 rfl rfl (by kernel_rfl)
       exact at_skip rfl rfl (j := 9) (k := 19) rfl (by rw [hgv]; simp [undef]) ⟨_, rfl, rfl, hg⟩
      ·cases hj
       have hgv : A.tmps.getD 19 undef = undef := hI.val hd 9 19 rfl rfl (by kernel_rfl)
       exact at_skip rfl rfl (j := 9) (k := 19) rfl (by rw [hgv]; simp [undef]) ⟨_, rfl, rfl, hg⟩
      ·cases hj
       have hgv : A.tmps.getD 19 undef = undef := hI.val hd 9 19 rfl rfl (by kernel_rfl)
       exact at_skip rfl rfl (j := 9) (k := 19) rfl (by rw [hgv]; simp [undef]) ⟨_, rfl, rfl, hg⟩
      ·cases hj
       have hgv : A.tmps.getD 19 undef = undef := hI.val hd 9 19 rfl rfl (by kernel_rfl)
       exact at_skip rfl rfl (j := 9) (k := 19) rfl (by rw [hgv]; simp [undef]) ⟨_, rfl, rfl, hg⟩
      ·cases hj
       have hgv : A.tmps.getD 19 undef = undef := hI.val hd 9 19 rfl rfl (by kernel_rfl)
       exact at_skip rfl rfl (j := 9) (k := 19) rfl (by rw [hgv]; simp [undef]) ⟨_, rfl, rfl, hg⟩
      ·cases hj
       have hgv : A.tmps.getD 19 undef = undef := hI.val hd 9 19 rfl rfl (by kernel_rfl)
       exact at_skip rfl rfl (j := 9) (k := 19) rfl (by rw [hgv]; simp [undef]) ⟨_, rfl, rfl, hg⟩
      ·cases hj
       have hgv : A.tmps.getD 16 undef = .bool true := hI.val hd 6 16 rfl rfl (by kernel_rfl)
       exact at_skip rfl rfl (j := 6) (k := 16) rfl (by rw [hgv]; simp [undef]) ⟨_, rfl, rfl, hg⟩
      ·cases hj
       have e0 : A.eval (.tmp 16) = .bool true := hI.val hd 6 16 rfl rfl (by kernel_rfl)
       have e1 : A.eval (.tmp 30) = undef := hI.val hd 20 30 rfl rfl (by kernel_rfl)
       exact at_op rfl rfl (pick_op rfl e0 ⟨_, rfl, rfl, hg⟩)
      omega
     case done =>
      intro A W hI
      have hg := hI.g
      have s31 : A.tmps.getD 31 undef = .bool true := hI.last 21 31 rfl
      have hA := hI.frame [10, 11, 12, 13, 14, 15, 16, 17, 18, 19, 20, 21, 22, 23, 24, 25, 26, 27, 28, 29, 30, 31] (by kernel_rfl)
      rw [hA]
      simp only [putAll, List.foldl_cons, List.foldl_nil, s31, Act.put, List.setIfInBounds_toArray, List.set_cons_zero, List.set_cons_succ]
      clear hA hI s31
      go_wp2
      go_ret
      exact ⟨ret_bool (by rw [HF.out]), hg.bel⟩
    ·by_cases hk0 : 0 < k
     ·cases hlt : later (M3.at' l (k - 1)) (M3.at' l k)
      ·have HF : Hid (fitsTo l (k + 1) = true) := show _ = _ by rw [fitsTo_succ, hft]; unfold fits; rw [hok, hlt]; simp
       go_wp2_with fail
       refine region_known (by kernel_rfl) (by kernel_rfl) 0 (by decide) (by kernel_rfl) (fun _ W => Gi w (.slice (some ⟨b, off, none⟩) l.length c) l W) [.slice (some ⟨b, off, none⟩) l.length c, .int .i64 (k : Int), .pointer (some ⟨b, off + k * 3, none⟩), (M3.at' l k).val, .bool true, .bool false, .bool false, .int .i64 (k : Int), .bool true, .bool true, .slice (some ⟨b, off, none⟩) l.length c, .int .i64 (k : Int), .int .i64 ((k - 1 : Nat) : Int), .pointer (some ⟨b, off + (k - 1) * 3, none⟩), (M3.at' l (k - 1)).val, .slice (some ⟨b, off, none⟩) l.length c, .int .i64 (k : Int), .pointer (some ⟨b, off + k * 3, none⟩), (M3.at' l k).val, .bool false, .bool false, .bool false] hG.drew ?step ?done
       case step =>
        intro L ix o' A W hj hI hL hd
        have hin : ix < 22 := by
         by_cases hl : ix < 22
         ·exact hl
         ·simp [hl] at hj
        have hsz : A.tmps.size = 35 := hI.size
        have hg := hI.g
        rcases ix with _ | _ | _ | _ | _ | _ | _ | _ | _ | _ | _ | _ | _ | _ | _ | _ | _ | _ | _ | _ | _ | _ | ix
        ·cases hj; exact at_op rfl rfl (move_op rfl ⟨_, rfl, hI.old 0 (by kernel_rfl), hg⟩)
        ·cases hj; exact at_op rfl rfl (move_op rfl ⟨_, rfl, hI.old 3 (by kernel_rfl), hg⟩)
        ·cases hj
         have e0 : A.eval (.tmp 10) = .slice (some ⟨b, off, none⟩) l.length c := hI.val hd 0 10 rfl rfl (by kernel_rfl)
         have e1 : A.eval (.tmp 11) = .int .i64 (k : Int) := hI.val hd 1 11 rfl rfl (by kernel_rfl)
         exact at_op rfl rfl (ixF_op okM rfl e0 e1 (by omega) ⟨_, rfl, rfl, hg⟩)
        ·cases hj
         have e0 : A.eval (.tmp 12) = .pointer (some ⟨b, off + k * 3, none⟩) := hI.val hd 2 12 rfl rfl (by kernel_rfl)
         exact at_op rfl rfl (elF_op okM rfl e0 (hg.sl.range okM (at_some (by omega))) ⟨_, rfl, rfl, hg⟩)
        ·cases hj
         have e0 : A.eval (.tmp 13) = (M3.at' l k).val := hI.val hd 3 13 rfl rfl (by kernel_rfl)
         refine at_op rfl rfl (call_op rfl Tryz.func67 (by kernel_rfl) (by kernel_rfl) ?_)
         simp only [List.map_cons, List.map_nil, e0]
         refine (l9MsgOk_spec _ _).mono ?_
         rw [hok]
         rintro e W1 ⟨rfl, hb⟩
         exact ⟨_, rfl, _, rfl, rfl, hg.below hb⟩
        ·cases hj; exact at_op rfl rfl (one_op (hI.val hd 4 14 rfl rfl (by kernel_rfl)) rfl (by kernel_rfl) ⟨_, rfl, rfl, hg⟩)
        ·cases hj; exact at_op rfl rfl (move_op rfl ⟨_, rfl, hI.val hd 5 15 rfl rfl (by kernel_rfl), hg⟩)
        ·cases hj; exact at_guard rfl rfl (j := 6) (k := 16) rfl (by omega) (hI.val hd 6 16 rfl rfl (by kernel_rfl)) (move_op rfl ⟨_, rfl, hI.old 3 (by kernel_rfl), hg⟩)
        ·cases hj
         have hgv : A.tmps.getD 16 undef = .bool false := hI.val hd 6 16 rfl rfl (by kernel_rfl)
         have e0 : A.eval (.tmp 17) = .int .i64 (k : Int) := hI.val hd 7 17 rfl rfl (by kernel_rfl)
         exact at_guard rfl rfl (j := 6) (k := 16) rfl (by omega) hgv (bin_op (vy := .int .i64 0) rfl e0 rfl (fun w => by first | (simp [go_sem]; done) | (simp [go_sem]; omega)) ⟨_, rfl, rfl, hg⟩)
        ·cases hj; exact at_guard rfl rfl (j := 6) (k := 16) rfl (by omega) (hI.val hd 6 16 rfl rfl (by kernel_rfl)) (move_op rfl ⟨_, rfl, hI.val hd 8 18 rfl rfl (by kernel_rfl), hg⟩)
        ·cases hj; exact at_guard rfl rfl (j := 9) (k := 19) rfl (by omega) (hI.val hd 9 19 rfl rfl (by kernel_rfl)) (move_op rfl ⟨_, rfl, hI.old 0 (by kernel_rfl), hg⟩)
        ·cases hj; exact at_guard rfl rfl (j := 9) (k := 19) rfl (by omega) (hI.val hd 9 19 rfl rfl (by kernel_rfl)) (move_op rfl ⟨_, rfl, hI.old 3 (by kernel_rfl), hg⟩)
        ·cases hj
         have hgv : A.tmps.getD 19 undef = .bool true := hI.val hd 9 19 rfl rfl (by kernel_rfl)
         have e0 : A.eval (.tmp 21) = .int .i64 (k : Int) := hI.val hd 11 21 rfl rfl (by kernel_rfl)
         exact at_guard rfl rfl (j := 9) (k := 19) rfl (by omega) hgv (bin_op (vy := .int .i64 1) rfl e0 rfl (fun w => by rw [show ((k - 1 : Nat) : Int) = (k : Int) - 1 from by omega]; exact subN _ _ _ _ w (by omega) (by omega)) ⟨_, rfl, rfl, hg⟩)
        ·cases hj
         have hgv : A.tmps.getD 19 undef = .bool true := hI.val hd 9 19 rfl rfl (by kernel_rfl)
         have e0 : A.eval (.tmp 20) = .slice (some ⟨b, off, none⟩) l.length c := hI.val hd 10 20 rfl rfl (by kernel_rfl)
         have e1 : A.eval (.tmp 22) = .int .i64 ((k - 1 : Nat) : Int) := hI.val hd 12 22 rfl rfl (by kernel_rfl)
         exact at_guard rfl rfl (j := 9) (k := 19) rfl (by omega) hgv (ixF_op okM rfl e0 e1 (by omega) ⟨_, rfl, rfl, hg⟩)
        ·cases hj
         have hgv : A.tmps.getD 19 undef = .bool true := hI.val hd 9 19 rfl rfl (by kernel_rfl)
         have e0 : A.eval (.tmp 23) = .pointer (some ⟨b, off + (k - 1) * 3, none⟩) := hI.val hd 13 23 rfl rfl (by kernel_rfl)
         exact at_guard rfl rfl (j := 9) (k := 19) rfl (by omega) hgv (elF_op okM rfl e0 (hg.sl.range okM (at_some (by omega))) ⟨_, rfl, rfl, hg⟩)
        ·cases hj; exact at_guard rfl rfl (j := 9) (k := 19) rfl (by omega) (hI.val hd 9 19 rfl rfl (by kernel_rfl)) (move_op rfl ⟨_, rfl, hI.old 0 (by kernel_rfl), hg⟩)
        ·cases hj; exact at_guard rfl rfl (j := 9) (k := 19) rfl (by omega) (hI.val hd 9 19 rfl rfl (by kernel_rfl)) (move_op rfl ⟨_, rfl, hI.old 3 (by kernel_rfl), hg⟩)
        ·cases hj
         have hgv : A.tmps.getD 19 undef = .bool true := hI.val hd 9 19 rfl rfl (by kernel_rfl)
         have e0 : A.eval (.tmp 25) = .slice (some ⟨b, off, none⟩) l.length c := hI.val hd 15 25 rfl rfl (by kernel_rfl)
         have e1 : A.eval (.tmp 26) = .int .i64 (k : Int) := hI.val hd 16 26 rfl rfl (by kernel_rfl)
         exact at_guard rfl rfl (j := 9) (k := 19) rfl (by omega) hgv (ixF_op okM rfl e0 e1 (by omega) ⟨_, rfl, rfl, hg⟩)
        ·cases hj
         have hgv : A.tmps.getD 19 undef = .bool true := hI.val hd 9 19 rfl rfl (by kernel_rfl)
         have e0 : A.eval (.tmp 27) = .pointer (some ⟨b, off + k * 3, none⟩) := hI.val hd 17 27 rfl rfl (by kernel_rfl)
         exact at_guard rfl rfl (j := 9) (k := 19) rfl (by omega) hgv (elF_op okM rfl e0 (hg.sl.range okM (at_some (by omega))) ⟨_, rfl, rfl, hg⟩)
        ·cases hj
         have hgv : A.tmps.getD 19 undef = .bool true := hI.val hd 9 19 rfl rfl (by kernel_rfl)
         have e0 : A.eval (.tmp 24) = (M3.at' l (k - 1)).val := hI.val hd 14 24 rfl rfl (by kernel_rfl)
         have e1 : A.eval (.tmp 28) = (M3.at' l k).val := hI.val hd 18 28 rfl rfl (by kernel_rfl)
         refine at_guard rfl rfl (j := 9) (k := 19) rfl (by omega) hgv (call_op rfl Tryz.func72 (by kernel_rfl) (by kernel_rfl) ?_)
         simp only [List.map_cons, List.map_nil, e0, e1]
         refine (l9Later_spec _ _ _).mono ?_
         rw [hlt]
         rintro e W1 ⟨rfl, hb⟩
         exact ⟨_, rfl, _, rfl, rfl, hg.below hb⟩
        ·cases hj
         have hgv : A.tmps.getD 16 undef = .bool false := hI.val hd 6 16 rfl rfl (by kernel_rfl)
         have e0 : A.eval (.tmp 19) = .bool true := hI.val hd 9 19 rfl rfl (by kernel_rfl)
         have e1 : A.eval (.tmp 29) = .bool false := hI.val hd 19 29 rfl rfl (by kernel_rfl)
         exact at_guard rfl rfl (j := 6) (k := 16) rfl (by omega) hgv (pick_op rfl e0 ⟨_, rfl, e1, hg⟩)
        ·cases hj
         have e0 : A.eval (.tmp 16) = .bool false := hI.val hd 6 16 rfl rfl (by kernel_rfl)
         have e1 : A.eval (.tmp 30) = .bool false := hI.val hd 20 30 rfl rfl (by kernel_rfl)
         exact at_op rfl rfl (pick_op rfl e0 ⟨_, rfl, e1, hg⟩)
        omega
       case done =>
        intro A W hI
        have hg := hI.g
        have s31 : A.tmps.getD 31 undef = .bool false := hI.last 21 31 rfl
        have hA := hI.frame [10, 11, 12, 13, 14, 15, 16, 17, 18, 19, 20, 21, 22, 23, 24, 25, 26, 27, 28, 29, 30, 31] (by kernel_rfl)
        rw [hA]
        simp only [putAll, List.foldl_cons, List.foldl_nil, s31, Act.put, List.setIfInBounds_toArray, List.set_cons_zero, List.set_cons_succ]
        clear hA hI s31
        go_wp2
        go_roundw
        case rel => exact ⟨k + 1, by omega, by go_num, HF.out, hg⟩
        case measure => simp [intOf]; omega
      ·have HF : Hid (inboxOk l = false) := show _ = _ by unfold inboxOk; rw [fitsTo_no hlt' (by unfold fits; rw [hok, hlt]; simp [hk0])]; rfl
       go_wp2_with fail
       refine region_known (by kernel_rfl) (by kernel_rfl) 0 (by decide) (by kernel_rfl) (fun _ W => Gi w (.slice (some ⟨b, off, none⟩) l.length c) l W) [.slice (some ⟨b, off, none⟩) l.length c, .int .i64 (k : Int), .pointer (some ⟨b, off + k * 3, none⟩), (M3.at' l k).val, .bool true, .bool false, .bool false, .int .i64 (k : Int), .bool true, .bool true, .slice (some ⟨b, off, none⟩) l.length c, .int .i64 (k : Int), .int .i64 ((k - 1 : Nat) : Int), .pointer (some ⟨b, off + (k - 1) * 3, none⟩), (M3.at' l (k - 1)).val, .slice (some ⟨b, off, none⟩) l.length c, .int .i64 (k : Int), .pointer (some ⟨b, off + k * 3, none⟩), (M3.at' l k).val, .bool true, .bool true, .bool true] hG.drew ?step ?done
       case step =>
        intro L ix o' A W hj hI hL hd
        have hin : ix < 22 := by
         by_cases hl : ix < 22
         ·exact hl
         ·simp [hl] at hj
        have hsz : A.tmps.size = 35 := hI.size
        have hg := hI.g
        rcases ix with _ | _ | _ | _ | _ | _ | _ | _ | _ | _ | _ | _ | _ | _ | _ | _ | _ | _ | _ | _ | _ | _ | ix
        ·cases hj; exact at_op rfl rfl (move_op rfl ⟨_, rfl, hI.old 0 (by kernel_rfl), hg⟩)
        ·cases hj; exact at_op rfl rfl (move_op rfl ⟨_, rfl, hI.old 3 (by kernel_rfl), hg⟩)
        ·cases hj
         have e0 : A.eval (.tmp 10) = .slice (some ⟨b, off, none⟩) l.length c := hI.val hd 0 10 rfl rfl (by kernel_rfl)
         have e1 : A.eval (.tmp 11) = .int .i64 (k : Int) := hI.val hd 1 11 rfl rfl (by kernel_rfl)
         exact at_op rfl rfl (ixF_op okM rfl e0 e1 (by omega) ⟨_, rfl, rfl, hg⟩)
        ·cases hj
         have e0 : A.eval (.tmp 12) = .pointer (some ⟨b, off + k * 3, none⟩) := hI.val hd 2 12 rfl rfl (by kernel_rfl)
         exact at_op rfl rfl (elF_op okM rfl e0 (hg.sl.range okM (at_some (by omega))) ⟨_, rfl, rfl, hg⟩)
        ·cases hj
         have e0 : A.eval (.tmp 13) = (M3.at' l k).val := hI.val hd 3 13 rfl rfl (by kernel_rfl)
         refine at_op rfl rfl (call_op rfl Tryz.func67 (by kernel_rfl) (by kernel_rfl) ?_)
         simp only [List.map_cons, List.map_nil, e0]
         refine (l9MsgOk_spec _ _).mono ?_
         rw [hok]
         rintro e W1 ⟨rfl, hb⟩
         exact ⟨_, rfl, _, rfl, rfl, hg.below hb⟩
        ·cases hj; exact at_op rfl rfl (one_op (hI.val hd 4 14 rfl rfl (by kernel_rfl)) rfl (by kernel_rfl) ⟨_, rfl, rfl, hg⟩)
        ·cases hj; exact at_op rfl rfl (move_op rfl ⟨_, rfl, hI.val hd 5 15 rfl rfl (by kernel_rfl), hg⟩)
        ·cases hj; exact at_guard rfl rfl (j := 6) (k := 16) rfl (by omega) (hI.val hd 6 16 rfl rfl (by kernel_rfl)) (move_op rfl ⟨_, rfl, hI.old 3 (by kernel_rfl), hg⟩)
        ·cases hj
         have hgv : A.tmps.getD 16 undef = .bool false := hI.val hd 6 16 rfl rfl (by kernel_rfl)
         have e0 : A.eval (.tmp 17) = .int .i64 (k : Int) := hI.val hd 7 17 rfl rfl (by kernel_rfl)
         exact at_guard rfl rfl (j := 6) (k := 16) rfl (by omega) hgv (bin_op (vy := .int .i64 0) rfl e0 rfl (fun w => by first | (simp [go_sem]; done) | (simp [go_sem]; omega)) ⟨_, rfl, rfl, hg⟩)
        ·cases hj; exact at_guard rfl rfl (j := 6) (k := 16) rfl (by omega) (hI.val hd 6 16 rfl rfl (by kernel_rfl)) (move_op rfl ⟨_, rfl, hI.val hd 8 18 rfl rfl (by kernel_rfl), hg⟩)
        ·cases hj; exact at_guard rfl rfl (j := 9) (k := 19) rfl (by omega) (hI.val hd 9 19 rfl rfl (by kernel_rfl)) (move_op rfl ⟨_, rfl, hI.old 0 (by kernel_rfl), hg⟩)
        ·cases hj; exact at_guard rfl rfl (j := 9) (k := 19) rfl (by omega) (hI.val hd 9 19 rfl rfl (by kernel_rfl)) (move_op rfl ⟨_, rfl, hI.old 3 (by kernel_rfl), hg⟩)
        ·cases hj
         have hgv : A.tmps.getD 19 undef = .bool true := hI.val hd 9 19 rfl rfl (by kernel_rfl)
         have e0 : A.eval (.tmp 21) = .int .i64 (k : Int) := hI.val hd 11 21 rfl rfl (by kernel_rfl)
         exact at_guard rfl rfl (j := 9) (k := 19) rfl (by omega) hgv (bin_op (vy := .int .i64 1) rfl e0 rfl (fun w => by rw [show ((k - 1 : Nat) : Int) = (k : Int) - 1 from by omega]; exact subN _ _ _ _ w (by omega) (by omega)) ⟨_, rfl, rfl, hg⟩)
        ·cases hj
         have hgv : A.tmps.getD 19 undef = .bool true := hI.val hd 9 19 rfl rfl (by kernel_rfl)
         have e0 : A.eval (.tmp 20) = .slice (some ⟨b, off, none⟩) l.length c := hI.val hd 10 20 rfl rfl (by kernel_rfl)
         have e1 : A.eval (.tmp 22) = .int .i64 ((k - 1 : Nat) : Int) := hI.val hd 12 22 rfl rfl (by kernel_rfl)
         exact at_guard rfl rfl (j := 9) (k := 19) rfl (by omega) hgv (ixF_op okM rfl e0 e1 (by omega) ⟨_, rfl, rfl, hg⟩)
        ·cases hj
         have hgv : A.tmps.getD 19 undef = .bool true := hI.val hd 9 19 rfl rfl (by kernel_rfl)
         have e0 : A.eval (.tmp 23) = .pointer (some ⟨b, off + (k - 1) * 3, none⟩) := hI.val hd 13 23 rfl rfl (by kernel_rfl)
         exact at_guard rfl rfl (j := 9) (k := 19) rfl (by omega) hgv (elF_op okM rfl e0 (hg.sl.range okM (at_some (by omega))) ⟨_, rfl, rfl, hg⟩)
        ·cases hj; exact at_guard rfl rfl (j := 9) (k := 19) rfl (by omega) (hI.val hd 9 19 rfl rfl (by kernel_rfl)) (move_op rfl ⟨_, rfl, hI.old 0 (by kernel_rfl), hg⟩)
        ·cases hj; exact at_guard rfl rfl (j := 9) (k := 19) rfl (by omega) (hI.val hd 9 19 rfl rfl (by kernel_rfl)) (move_op rfl ⟨_, rfl, hI.old 3 (by kernel_rfl), hg⟩)
        ·cases hj
         have hgv : A.tmps.getD 19 undef = .bool true := hI.val hd 9 19 rfl rfl (by kernel_rfl)
         have e0 : A.eval (.tmp 25) = .slice (some ⟨b, off, none⟩) l.length c := hI.val hd 15 25 rfl rfl (by kernel_rfl)
         have e1 : A.eval (.tmp 26) = .int .i64 (k : Int) := hI.val hd 16 26 rfl rfl (by kernel_rfl)
         exact at_guard rfl rfl (j := 9) (k := 19) rfl (by omega) hgv (ixF_op okM rfl e0 e1 (by omega) ⟨_, rfl, rfl, hg⟩)
        ·cases hj
         have hgv : A.tmps.getD 19 undef = .bool true := hI.val hd 9 19 rfl rfl (by kernel_rfl)
         have e0 : A.eval (.tmp 27) = .pointer (some ⟨b, off + k * 3, none⟩) := hI.val hd 17 27 rfl rfl (by kernel_rfl)
         exact at_guard rfl rfl (j := 9) (k := 19) rfl (by omega) hgv (elF_op okM rfl e0 (hg.sl.range okM (at_some (by omega))) ⟨_, rfl, rfl, hg⟩)
        ·cases hj
         have hgv : A.tmps.getD 19 undef = .bool true := hI.val hd 9 19 rfl rfl (by kernel_rfl)
         have e0 : A.eval (.tmp 24) = (M3.at' l (k - 1)).val := hI.val hd 14 24 rfl rfl (by kernel_rfl)
         have e1 : A.eval (.tmp 28) = (M3.at' l k).val := hI.val hd 18 28 rfl rfl (by kernel_rfl)
         refine at_guard rfl rfl (j := 9) (k := 19) rfl (by omega) hgv (call_op rfl Tryz.func72 (by kernel_rfl) (by kernel_rfl) ?_)
         simp only [List.map_cons, List.map_nil, e0, e1]
         refine (l9Later_spec _ _ _).mono ?_
         rw [hlt]
         rintro e W1 ⟨rfl, hb⟩
         exact ⟨_, rfl, _, rfl, rfl, hg.below hb⟩
        ·cases hj
         have hgv : A.tmps.getD 16 undef = .bool false := hI.val hd 6 16 rfl rfl (by kernel_rfl)
         have e0 : A.eval (.tmp 19) = .bool true := hI.val hd 9 19 rfl rfl (by kernel_rfl)
         have e1 : A.eval (.tmp 29) = .bool true := hI.val hd 19 29 rfl rfl (by kernel_rfl)
         exact at_guard rfl rfl (j := 6) (k := 16) rfl (by omega) hgv (pick_op rfl e0 ⟨_, rfl, e1, hg⟩)
        ·cases hj
         have e0 : A.eval (.tmp 16) = .bool false := hI.val hd 6 16 rfl rfl (by kernel_rfl)
         have e1 : A.eval (.tmp 30) = .bool true := hI.val hd 20 30 rfl rfl (by kernel_rfl)
         exact at_op rfl rfl (pick_op rfl e0 ⟨_, rfl, e1, hg⟩)
        omega
       case done =>
        intro A W hI
        have hg := hI.g
        have s31 : A.tmps.getD 31 undef = .bool true := hI.last 21 31 rfl
        have hA := hI.frame [10, 11, 12, 13, 14, 15, 16, 17, 18, 19, 20, 21, 22, 23, 24, 25, 26, 27, 28, 29, 30, 31] (by kernel_rfl)
        rw [hA]
        simp only [putAll, List.foldl_cons, List.foldl_nil, s31, Act.put, List.setIfInBounds_toArray, List.set_cons_zero, List.set_cons_succ]
        clear hA hI s31
        go_wp2
        go_ret
        exact ⟨ret_bool (by rw [HF.out]), hg.bel⟩
     ·have HF : Hid (fitsTo l (k + 1) = true) := show _ = _ by rw [fitsTo_succ, hft]; unfold fits; rw [hok]; simp [hk0]
      go_wp2_with fail
      refine region_known (by kernel_rfl) (by kernel_rfl) 0 (by decide) (by kernel_rfl) (fun _ W => Gi w (.slice (some ⟨b, off, none⟩) l.length c) l W) [.slice (some ⟨b, off, none⟩) l.length c, .int .i64 (k : Int), .pointer (some ⟨b, off + k * 3, none⟩), (M3.at' l k).val, .bool true, .bool false, .bool false, .int .i64 (k : Int), .bool false, .bool false, undef, undef, undef, undef, undef, undef, undef, undef, undef, undef, .bool false, .bool false] hG.drew ?step ?done
      case step =>
       intro L ix o' A W hj hI hL hd
       have hin : ix < 22 := by
        by_cases hl : ix < 22
        ·exact hl
        ·simp [hl] at hj
       have hsz : A.tmps.size = 35 := hI.size
       have hg := hI.g
       rcases ix with _ | _ | _ | _ | _ | _ | _ | _ | _ | _ | _ | _ | _ | _ | _ | _ | _ | _ | _ | _ | _ | _ | ix
       ·cases hj; exact at_op rfl rfl (move_op rfl ⟨_, rfl, hI.old 0 (by kernel_rfl), hg⟩)
       ·cases hj; exact at_op rfl rfl (move_op rfl ⟨_, rfl, hI.old 3 (by kernel_rfl), hg⟩)
       ·cases hj
        have e0 : A.eval (.tmp 10) = .slice (some ⟨b, off, none⟩) l.length c := hI.val hd 0 10 rfl rfl (by kernel_rfl)
        have e1 : A.eval (.tmp 11) = .int .i64 (k : Int) := hI.val hd 1 11 rfl rfl (by kernel_rfl)
        exact at_op rfl rfl (ixF_op okM rfl e0 e1 (by omega) ⟨_, rfl, rfl, hg⟩)
       ·cases hj
        have e0 : A.eval (.tmp 12) = .pointer (some ⟨b, off + k * 3, none⟩) := hI.val hd 2 12 rfl rfl (by kernel_rfl)
        exact at_op rfl rfl (elF_op okM rfl e0 (hg.sl.range okM (at_some (by omega))) ⟨_, rfl, rfl, hg⟩)
       ·cases hj
        have e0 : A.eval (.tmp 13) = (M3.at' l k).val := hI.val hd 3 13 rfl rfl (by kernel_rfl)
        refine at_op rfl rfl (call_op rfl Tryz.func67 (by kernel_rfl) (by kernel_rfl) ?_)
        simp only [List.map_cons, List.map_nil, e0]
        refine (l9MsgOk_spec _ _).mono ?_
        rw [hok]
        rintro e W1 ⟨rfl, hb⟩
        exact ⟨_, rfl, _, rfl, rfl, hg.below hb⟩
       ·cases hj; exact at_op rfl rfl (one_op (hI.val hd 4 14 rfl rfl (by kernel_rfl)) rfl (by kernel_rfl) ⟨_, rfl, rfl, hg⟩)
       ·cases hj; exact at_op rfl rfl (move_op rfl ⟨_, rfl, hI.val hd 5 15 rfl rfl (by kernel_rfl), hg⟩)
       ·cases hj; exact at_guard rfl rfl (j := 6) (k := 16) rfl (by omega) (hI.val hd 6 16 rfl rfl (by kernel_rfl)) (move_op rfl ⟨_, rfl, hI.old 3 (by kernel_rfl), hg⟩)
       ·cases hj
        have hgv : A.tmps.getD 16 undef = .bool false := hI.val hd 6 16 rfl rfl (by kernel_rfl)
        have e0 : A.eval (.tmp 17) = .int .i64 (k : Int) := hI.val hd 7 17 rfl rfl (by kernel_rfl)
        exact at_guard rfl rfl (j := 6) (k := 16) rfl (by omega) hgv (bin_op (vy := .int .i64 0) rfl e0 rfl (fun w => by first | (simp [go_sem]; done) | (simp [go_sem]; omega)) ⟨_, rfl, rfl, hg⟩)
       ·cases hj; exact at_guard rfl rfl (j := 6) (k := 16) rfl (by omega) (hI.val hd 6 16 rfl rfl (by kernel_rfl)) (move_op rfl ⟨_, rfl, hI.val hd 8 18 rfl rfl (by kernel_rfl), hg⟩)
       ·cases hj
        have hgv : A.tmps.getD 19 undef = .bool false := hI.val hd 9 19 rfl rfl (by kernel_rfl)
        exact at_skip rfl rfl (j := 9) (k := 19) rfl (by rw [hgv]; simp [undef]) ⟨_, rfl, rfl, hg⟩
       ·cases hj
        have hgv : A.tmps.getD 19 undef = .bool false := hI.val hd 9 19 rfl rfl (by kernel_rfl)
        exact at_skip rfl rfl (j := 9) (k := 19) rfl (by rw [hgv]; simp [undef]) ⟨_, rfl, rfl, hg⟩
       ·cases hj
        have hgv : A.tmps.getD 19 undef = .bool false := hI.val hd 9 19 rfl rfl (by kernel_rfl)
        exact at_skip rfl rfl (j := 9) (k := 19) rfl (by rw [hgv]; simp [undef]) ⟨_, rfl, rfl, hg⟩
       ·cases hj
        have hgv : A.tmps.getD 19 undef = .bool false := hI.val hd 9 19 rfl rfl (by kernel_rfl)
        exact at_skip rfl rfl (j := 9) (k := 19) rfl (by rw [hgv]; simp [undef]) ⟨_, rfl, rfl, hg⟩
       ·cases hj
        have hgv : A.tmps.getD 19 undef = .bool false := hI.val hd 9 19 rfl rfl (by kernel_rfl)
        exact at_skip rfl rfl (j := 9) (k := 19) rfl (by rw [hgv]; simp [undef]) ⟨_, rfl, rfl, hg⟩
       ·cases hj
        have hgv : A.tmps.getD 19 undef = .bool false := hI.val hd 9 19 rfl rfl (by kernel_rfl)
        exact at_skip rfl rfl (j := 9) (k := 19) rfl (by rw [hgv]; simp [undef]) ⟨_, rfl, rfl, hg⟩
       ·cases hj
        have hgv : A.tmps.getD 19 undef = .bool false := hI.val hd 9 19 rfl rfl (by kernel_rfl)
        exact at_skip rfl rfl (j := 9) (k := 19) rfl (by rw [hgv]; simp [undef]) ⟨_, rfl, rfl, hg⟩
       ·cases hj
        have hgv : A.tmps.getD 19 undef = .bool false := hI.val hd 9 19 rfl rfl (by kernel_rfl)
        exact at_skip rfl rfl (j := 9) (k := 19) rfl (by rw [hgv]; simp [undef]) ⟨_, rfl, rfl, hg⟩
       ·cases hj
        have hgv : A.tmps.getD 19 undef = .bool false := hI.val hd 9 19 rfl rfl (by kernel_rfl)
        exact at_skip rfl rfl (j := 9) (k := 19) rfl (by rw [hgv]; simp [undef]) ⟨_, rfl, rfl, hg⟩
       ·cases hj
        have hgv : A.tmps.getD 19 undef = .bool false := hI.val hd 9 19 rfl rfl (by kernel_rfl)
        exact at_skip rfl rfl (j := 9) (k := 19) rfl (by rw [hgv]; simp [undef]) ⟨_, rfl, rfl, hg⟩
       ·cases hj
        have hgv : A.tmps.getD 16 undef = .bool false := hI.val hd 6 16 rfl rfl (by kernel_rfl)
        have e0 : A.eval (.tmp 19) = .bool false := hI.val hd 9 19 rfl rfl (by kernel_rfl)
        have e1 : A.eval (.tmp 29) = undef := hI.val hd 19 29 rfl rfl (by kernel_rfl)
        exact at_guard rfl rfl (j := 6) (k := 16) rfl (by omega) hgv (pick_op rfl e0 ⟨_, rfl, rfl, hg⟩)
       ·cases hj
        have e0 : A.eval (.tmp 16) = .bool false := hI.val hd 6 16 rfl rfl (by kernel_rfl)
        have e1 : A.eval (.tmp 30) = .bool false := hI.val hd 20 30 rfl rfl (by kernel_rfl)
        exact at_op rfl rfl (pick_op rfl e0 ⟨_, rfl, e1, hg⟩)
       omega
      case done =>
       intro A W hI
       have hg := hI.g
       have s31 : A.tmps.getD 31 undef = .bool false := hI.last 21 31 rfl
       have hA := hI.frame [10, 11, 12, 13, 14, 15, 16, 17, 18, 19, 20, 21, 22, 23, 24, 25, 26, 27, 28, 29, 30, 31] (by kernel_rfl)
       rw [hA]
       simp only [putAll, List.foldl_cons, List.foldl_nil, s31, Act.put, List.setIfInBounds_toArray, List.set_cons_zero, List.set_cons_succ]
       clear hA hI s31
       go_wp2
       go_roundw
       case rel => exact ⟨k + 1, by omega, by go_num, HF.out, hg⟩
       case measure => simp [intOf]; omega
   ·have hk' : k = l.length := by omega
    have HF : Hid (inboxOk l = decide (l.length ≤ 200)) := show _ = _ by unfold inboxOk; rw [← hk', hft]; rfl
    have hbel := hG.bel
    go_wp2
    go_ret
    exact ⟨ret_bool (by rw [HF.out]; simp <;> omega), hbel⟩
 ·obtain ⟨a, cap, rfl, h1⟩ := h
  have hl : l = [] := List.eq_nil_of_length_eq_zero (by omega)
  subst hl
  go_enter Tryz.func18, Tryz.ntmps18
  go_wp2_with fail
  go_loopw [3] (fun i wr => i = .int .i64 0 ∧ wr = w) (fun i _ => 0)
  case atStart => exact ⟨rfl, rfl⟩
  case round =>
   obtain ⟨rfl, rfl⟩ := hrel
   go_wp2
   go_ret
   exact ⟨rfl, Below.refl _ _⟩
end Go.Proofs.YtghmkacamabndaaGreatDoor.Mem
namespace Go.Proofs.YtghmkacamabndaaGreatDoor.Ex
open Go.ChangeShapes Go.WideShapes Go.RowKit Base Slc

theorem set_step (l : List Int) (k : Nat) (h : k < l.length) : (l.take k ++ List.replicate (l.length - k) 0).set k (l.getD k 0) = l.take (k + 1) ++ List.replicate (l.length - (k + 1)) 0 := by
 rw [getD_take h]
 have e : l.length - k = (l.length - (k + 1)) + 1 := by omega
 rw [e, List.replicate_succ, List.set_append_right _ _ (by simp; omega)]
 have : (l.take k).length = k := by simp; omega
 simp [this]

theorem to_any (v : Value) (l : List Int) (w : World) (h : Sl w v l) (hb : l.length ≤ 4000000) :
  Calls Tryz.prog 92 #[v] w fun e w' => ∃ v', e = .returned v' ∧ Own w.heap.size w' v' l ∧ Below w.heap.size w w' := by
 obtain ⟨a, cap, rfl, hat, hlc, hcm, hnil⟩ := h
 have HS : Hid (IntsAt w a l.length l) := hat
 unfold maxLen at hcm
 clear hat hnil
 go_enter Tryz.func92, Tryz.ntmps92
 go_wp2_with (at_make; refine make64 rfl (.tmp 6) (.tmp 6) rfl w.heap.size l.length _ rfl rfl rfl (by omega) (Nat.le_refl _) ?_; intro w1 ho hg; have HO : Hid (Own w.heap.size w1 (.slice (some ⟨w.heap.size, 0, none⟩) l.length l.length) (l.take 0 ++ List.replicate (l.length - 0) 0) ∧ Below w.heap.size w w1) := ⟨by simpa using ho, (Below.refl _ _).grown hg (Nat.le_refl _) (by simp)⟩; clear ho hg)
 go_loopw [4] (fun i wr => ∃ k : Nat, k ≤ l.length ∧ i = .int .i64 k ∧ Own w.heap.size wr (.slice (some ⟨w.heap.size, 0, none⟩) l.length l.length) (l.take k ++ List.replicate (l.length - k) 0) ∧ Below w.heap.size w wr) (fun i _ => l.length - (intOf i).toNat)
 case atStart => exact ⟨0, Nat.zero_le _, rfl, HO.out.1, HO.out.2⟩
 case round =>
  obtain ⟨k, hk, rfl, ho, hbw⟩ := hrel
  have HO2 : Hid (Own w.heap.size wr (.slice (some ⟨w.heap.size, 0, none⟩) l.length l.length) (l.take k ++ List.replicate (l.length - k) 0)) := ho
  have HB : Hid (Below w.heap.size w wr) := hbw
  by_cases hlt : k < l.length
  ·rcases HS.out.2 with h0 | ⟨b, off, rfl, hbl, hcell⟩
   ·omega
   ·have hz := hcell k hlt
    have hz2 : wr.cell? ⟨b, off + k, none⟩ = some (.int .i64 (l.getD k 0)) := by rw [hbw.cell (p := ⟨b, off + k, none⟩) hbl]; exact hz
    have hc2 := ho.cellAt (j := k) (by simp; omega)
    have hf2 := ho.free k
    clear hcell hz ho hbw
    obtain ⟨z, hzz⟩ : ∃ z, z = l.getD k 0 := ⟨_, rfl⟩
    rw [← hzz] at hz2
    have HZ : Hid (z = l.getD k 0) := hzz
    clear hzz
    obtain ⟨y, hyy⟩ : ∃ y, y = (l.take k ++ List.replicate (l.length - k) 0).getD k 0 := ⟨_, rfl⟩
    rw [← hyy] at hc2
    clear hyy
    go_wp2
    go_roundw
    case rel => exact ⟨k + 1, by omega, by go_num, by rw [← set_step l k hlt, ← HZ.out]; exact (HO2.out.store k z).1, HB.out.grown (HO2.out.store k z).2 HB.out.size (by simp)⟩
    case measure => simp [intOf]; omega
  ·clear ho hbw
   go_wp2
   go_ret
   have e : k = l.length := by omega
   subst e
   exact ⟨_, rfl, by simpa using HO2.out, HB.out⟩

theorem take_both {l1 l2 : List Int} {k : Nat} (h : l1.take k = l2.take k) (h1 : k < l1.length) (h2 : k < l2.length) (hz : l1.getD k 0 = l2.getD k 0) : l1.take (k + 1) = l2.take (k + 1) := by
 rw [getD_take h1, getD_take h2, h, hz]
theorem eq_any (v1 v2 : Value) (l1 l2 : List Int) (w : World) (h1 : Sl w v1 l1) (h2 : Sl w v2 l2) :
  Calls Tryz.prog 97 #[v1, v2] w fun e w' => e = .returned (.bool (decide (l1 = l2))) ∧ ∃ n, w' = w.drewN n := by
 obtain ⟨a1, cap1, rfl, hat1, hlc1, hcm1, hnil1⟩ := h1
 obtain ⟨a2, cap2, rfl, hat2, hlc2, hcm2, hnil2⟩ := h2
 unfold maxLen at hcm1 hcm2
 have H1 : Hid (IntsAt w a1 l1.length l1) := hat1
 have H2 : Hid (IntsAt w a2 l2.length l2) := hat2
 clear hat1 hat2 hnil1 hnil2
 by_cases hll : l1.length = l2.length
 ·go_enter Tryz.func97, Tryz.ntmps97
  go_wp2
  go_loopw [5] (fun i wr => ∃ k : Nat, k ≤ l1.length ∧ i = .int .i64 k ∧ l1.take k = l2.take k ∧ ∃ n, wr = w.drewN n) (fun i _ => l1.length - (intOf i).toNat)
  case atStart => exact ⟨0, Nat.zero_le _, rfl, rfl, 0, rfl⟩
  case round =>
   obtain ⟨k, hk, rfl, htk, n, rfl⟩ := hrel
   have HT : Hid (l1.take k = l2.take k) := htk
   have HL : Hid (l1.length = l2.length) := hll
   clear htk
   by_cases hlt : k < l1.length
   ·rcases H1.out.2 with h0 | ⟨b1, off1, rfl, hbl1, hcell1⟩
    ·omega
    ·rcases H2.out.2 with h0 | ⟨b2, off2, rfl, hbl2, hcell2⟩
     ·omega
     ·have hz1 := hcell1 k hlt
      have hz2 := hcell2 k (by omega)
      obtain ⟨z1, hzz1⟩ : ∃ z, z = l1.getD k 0 := ⟨_, rfl⟩
      obtain ⟨z2, hzz2⟩ : ∃ z, z = l2.getD k 0 := ⟨_, rfl⟩
      rw [← hzz1] at hz1
      rw [← hzz2] at hz2
      have hk1 : (k : Int) < (l1.length : Int) := by omega
      have hk2 : (k : Int) < (l2.length : Int) := by omega
      have hk3 : k < l2.length := by omega
      have HZ1 : Hid (z1 = l1.getD k 0) := hzz1
      have HZ2 : Hid (z2 = l2.getD k 0) := hzz2
      clear hzz1 hzz2 hcell1 hcell2 hll
      by_cases hz : z1 = z2
      ·have hzt : (z1 == z2) = true := by simp [hz]
       have HZ : Hid (z1 = z2) := hz
       clear hz
       go_wp2
       go_quiet (fail)
       go_wp2
       go_roundw
       case rel => exact ⟨k + 1, by omega, by go_num, take_both HT.out hlt hk3 (by rw [← HZ1.out, ← HZ2.out]; exact HZ.out), _, rfl⟩
       case measure => simp [intOf]; omega
      ·have hzf : (z1 == z2) = false := by simp [hz]
       have HD : Hid (decide (l1 = l2) = false) := by show decide (l1 = l2) = false; simp; intro e; exact hz (by rw [HZ1.out, HZ2.out, e])
       clear hz
       go_wp2
       go_quiet (fail)
       go_wp2
       go_ret
       exact ⟨ret_bool HD.out.symm, _, World.drewN_drewN _ _ _⟩
   ·clear hll
    go_wp2
    go_ret
    have e1 : l1.take k = l1 := List.take_of_length_le (by omega)
    have e2 : l2.take k = l2 := List.take_of_length_le (by have := HL.out; omega)
    have e3 := HT.out
    rw [e1, e2] at e3
    exact ⟨ret_bool (by simp [e3]), _, rfl⟩
 ·have HD : Hid (decide (l1 = l2) = false) := by show decide (l1 = l2) = false; simp; intro e; exact hll (by rw [e])
  have hne : ((l1.length : Int) == (l2.length : Int)) = false := by simp; omega
  go_enter Tryz.func97, Tryz.ntmps97
  go_wp2
  go_ret
  exact ⟨ret_bool HD.out.symm, 0, rfl⟩

def marks (k : Nat) : Nat → List Int
 | 0 => []
 | n + 1 => (k : Int) :: marks (k + 1) n
theorem marks_length (k n : Nat) : (marks k n).length = n := by
 induction n generalizing k with
 | zero => rfl
 | succ n ih => simp [marks, ih]
theorem marks_snoc (k n : Nat) : marks k (n + 1) = marks k n ++ [((k + n : Nat) : Int)] := by
 induction n generalizing k with
 | zero => simp [marks]
 | succ n ih =>
  have := ih (k + 1)
  rw [marks, this, marks]
  simp
  omega
theorem marks_getD (k n j : Nat) (h : j < n) : (marks k n).getD j 0 = ((k + j : Nat) : Int) := by
 induction n generalizing k j with
 | zero => omega
 | succ n ih =>
  cases j with
  | zero => simp [marks]
  | succ j =>
   have := ih (k + 1) j (by omega)
   simp only [marks, List.getD_cons_succ, this]
   omega
theorem mark_step (k : Nat) (l : List Int) (j : Nat) (h : j < l.length) : (marks k j ++ l.drop j).set j ((k + j : Nat) : Int) = marks k (j + 1) ++ l.drop (j + 1) := by
 rw [marks_snoc, List.set_append_right _ _ (by rw [marks_length]; omega), marks_length, Nat.sub_self, List.drop_eq_getElem_cons h, List.set_cons_zero]
 simp

theorem mark_any (v : Value) (l : List Int) (w : World) (base k : Nat) (h : Own base w v l) (hb : l.length ≤ 4000000) (hk : k ≤ 1000000000) :
  Calls Tryz.prog 101 #[v, .int .i64 (k : Int)] w fun e w' => e = .returned (.int .i64 ((k + l.length : Nat) : Int)) ∧ Own base w' v (marks k l.length) ∧ w.grownBy w' v.ownBlock := by
 have HO : Hid (Own base w v l) := h
 rcases h.2 with ⟨rfl, h0⟩ | ⟨g, cap, cur, rfl, hbg, hg, hn, hm, hcs, ht⟩
 ·have hl : l = [] := List.eq_nil_of_length_eq_zero h0
  subst hl
  go_enter Tryz.func101, Tryz.ntmps101
  go_wp2
  refine wp_loop_rounds 1 ?_
  rw [rounds_succ]
  go_wp2
  go_ret
  exact ⟨rfl, Own.nil _ _, World.grownBy.refl _ _⟩
 ·unfold maxLen at hm
  clear h hg hcs ht cur
  go_enter Tryz.func101, Tryz.ntmps101
  go_wp2
  go_loopw [1, 5] (fun q i wr => ∃ j : Nat, j ≤ l.length ∧ i = .int .i64 j ∧ q = .int .i64 ((k + j : Nat) : Int) ∧ Own base wr (.slice (some ⟨g, 0, none⟩) l.length cap) (marks k j ++ l.drop j) ∧ w.grownBy wr (some g)) (fun _ i _ => l.length - (intOf i).toNat)
  case atStart => exact ⟨0, Nat.zero_le _, rfl, rfl, by simpa [marks] using HO.out, World.grownBy.refl _ _⟩
  case round =>
   obtain ⟨j, hj, rfl, rfl, ho, hgw⟩ := hrel
   have HO2 : Hid (Own base wr (.slice (some ⟨g, 0, none⟩) l.length cap) (marks k j ++ l.drop j)) := ho
   have HG : Hid (w.grownBy wr (some g)) := hgw
   clear hgw
   by_cases hlt : j < l.length
   ·have hc2 := ho.cellAt (j := j) (by simp [marks_length]; omega)
    have hf2 := ho.free j
    clear ho
    obtain ⟨y, hyy⟩ : ∃ y, y = (marks k j ++ l.drop j).getD j 0 := ⟨_, rfl⟩
    rw [← hyy] at hc2
    clear hyy
    go_wp2
    go_roundw
    case rel => exact ⟨j + 1, by omega, by go_num, by go_num, by rw [← mark_step k l j hlt]; exact (HO2.out.store j _).1, grown_trans HG.out (HO2.out.store j _).2⟩
    case measure => simp [intOf]; omega
   ·clear ho
    go_wp2
    go_ret
    have e : j = l.length := by omega
    subst e
    exact ⟨rfl, by simpa using HO2.out, HG.out⟩

theorem held_any (v : Value) (n : Nat) (w : World) (k : Nat) (h : Sl w v (marks k n)) (hb : n ≤ 4000000) (hk : k ≤ 1000000000) :
  Calls Tryz.prog 150 #[v, .int .i64 (k : Int)] w fun e w' => e = .returned (.int .i64 ((k + n : Nat) : Int)) ∧ w' = w := by
 obtain ⟨a, cap, rfl, hat, hlc, hcm, hnil⟩ := h
 unfold maxLen at hcm
 obtain ⟨hlen, hc⟩ := hat
 rw [marks_length] at *
 clear hnil hlen
 go_enter Tryz.func150, Tryz.ntmps150
 go_wp2
 go_loop [1, 5] (fun q i => ∃ j : Nat, j ≤ n ∧ i = .int .i64 j ∧ q = .int .i64 ((k + j : Nat) : Int)) (fun _ i => n - (intOf i).toNat)
 case atStart => exact ⟨0, Nat.zero_le _, rfl, rfl⟩
 case round =>
  obtain ⟨j, hj, rfl, rfl⟩ := hrel
  by_cases hlt : j < n
  ·rcases hc with h0 | ⟨b, off, rfl, hbl, hcell⟩
   ·omega
   ·have hz := hcell j hlt
    rw [marks_getD k n j hlt] at hz
    clear hcell
    go_wp2
    go_round
    case rel => exact ⟨j + 1, by omega, by go_num, by go_num⟩
    case measure => simp [intOf]; omega
  ·go_wp2
   go_ret
   have e : j = n := by omega
   subst e
   exact ⟨rfl, rfl⟩
end Go.Proofs.YtghmkacamabndaaGreatDoor.Ex
namespace Go.Proofs.YtghmkacamabndaaGreatDoor.Mem
open Go.ChangeShapes Go.WideShapes Go.RowKit Base Num Slc Slf Rw Tmr Reg Ex

def fL : Fl M3 := ⟨121, 70, 3, 24, M3.cs, M3.nul⟩
theorem okL : fL.Ok := ⟨fun _ => rfl, by decide, fun _ => rfl, by kernel_rfl, by kernel_rfl, by decide, by decide, ⟨_, Tryz.underlying121, rfl⟩⟩
theorem own_there {α : Type} {f : Fl α} (hf : f.Ok) {base g n cap i : Nat} {w : World} {l : List α} {e : α} (h : OwnF f base w (.slice (some ⟨g, 0, none⟩) n cap) l) (hi : l[i]? = some e) : w.there g (i * f.n) f.n := fun j hj => by
 have hc := h.cellAt hf hi hj
 have hfr := h.free (i * f.n + j)
 refine ⟨?_, hfr⟩
 rw [hc]
 have := hf.len e
 rw [List.getElem?_eq_getElem (by omega)]
 rfl
section
variable {f : Fl M3} {ops : Array Oper} {rest : List Oper} {o : Oper} {a : Act} {w : World} {Q : Exit → Act → World → Prop} {x y : Operand} {g base n cap i j q : Nat} {l : List M3} {e e' : M3} {z : Int}
theorem stE (hf : f.Ok) (hn : f.n = 3) (hgd : o.guard = none) (ho : o.op = .store 2 x y) (hx : a.eval x = .pointer (some ⟨g, q, none⟩)) (hy : a.eval y = .int .i64 z) (hown : OwnF f base w (.slice (some ⟨g, 0, none⟩) n cap) l) (hi : l[i]? = some e) (hq : q = i * f.n + j) (hj : j < 3)
  (hset : (f.F e).set j (.int .i64 z) = f.F e') (h : ∀ w', OwnF f base w' (.slice (some ⟨g, 0, none⟩) n cap) (l.set i e') → w.grownBy w' (some g) → wpList Tryz.prog ops Q rest (a.put o.dst undef) w') : wpList Tryz.prog ops Q (o :: rest) a w :=
 wpList_plain hgd fun _ hK => by
  rw [hn] at hq
  subst hq
  have ht : w.there g (i * 3 + j) [Value.int .i64 z].length := fun k hk => by
   have hk0 : k = 0 := by simpa using hk
   subst hk0
   have := own_there hf hown hi j (by omega)
   rwa [hn] at this
  have hs := hown.store hf hi (j := j) (by omega) hset
  rw [hn] at hs
  unfold Oper.wp execOp
  simp only [ho, hx, hy, Instr.storeAt, Instr.sureAddr, Sem.run_bind, Sem.run_pure, Result.andThen_ok, run_store_in (P := Tryz.prog) w g (i * 3 + j) 2 (.int .i64 z) [.int .i64 z] rfl ht (by kernel_rfl) rfl]
  exact hK _ _ (h _ hs.1 hs.2)
theorem stF (hf : f.Ok) (hn : f.n = 3) (hF : f.F = M3.cs) (hgd : o.guard = none) (ho : o.op = .store f.T x y) (hx : a.eval x = .pointer (some ⟨g, q, none⟩)) (hy : a.eval y = e'.val) (hown : OwnF f base w (.slice (some ⟨g, 0, none⟩) n cap) l) (hi : l[i]? = some e) (hq : q = i * 3)
  (h : ∀ w', OwnF f base w' (.slice (some ⟨g, 0, none⟩) n cap) (l.set i e') → w.grownBy w' (some g) → wpList Tryz.prog ops Q rest (a.put o.dst undef) w') : wpList Tryz.prog ops Q (o :: rest) a w :=
 wpList_plain hgd fun _ hK => by
  subst hq
  have ht : w.there g (i * 3) e'.cs.length := by
   have := own_there hf hown hi
   rwa [hn] at this
  have hil : i < l.length := (List.getElem?_eq_some_iff.1 hi).1
  have s0 := hown.store hf hi (j := 0) (x' := ⟨e'.t, e.k, e.v⟩) (u := .int .i64 e'.t) (by omega) (by rw [hF]; rfl)
  have s1 := s0.1.store hf (i := i) (x := ⟨e'.t, e.k, e.v⟩) (by simp [hil]) (j := 1) (x' := ⟨e'.t, e'.k, e.v⟩) (u := .int .i64 e'.k) (by omega) (by rw [hF]; rfl)
  have s2 := s1.1.store hf (i := i) (x := ⟨e'.t, e'.k, e.v⟩) (by simp [hil]) (j := 2) (x' := e') (u := .int .i64 e'.v) (by omega) (by rw [hF]; rfl)
  rw [hn] at s0 s1 s2
  have hset : ((l.set i ⟨e'.t, e.k, e.v⟩).set i ⟨e'.t, e'.k, e.v⟩).set i e' = l.set i e' := by simp
  have hsz : (Tryz.prog.info? f.T).map (·.size) = some e'.cs.length := by have := size_info hf e'; rwa [hF] at this
  unfold Oper.wp execOp
  simp only [ho, hx, hy, Instr.storeAt, Instr.sureAddr, Sem.run_bind, Sem.run_pure, Result.andThen_ok, run_store_in (P := Tryz.prog) w g (i * 3) f.T e'.val e'.cs rfl ht hsz rfl]
  exact hK _ _ (h _ (hset ▸ s2.1) (grown_trans (grown_trans s0.2 s1.2) s2.2))
end
theorem szMsgS_any (v : Value) (l : List M3) (left : Int) (w : World) (h : SlF fL w v l) (hl : 0 ≤ left ∧ left ≤ 1048576) :
  Calls Tryz.prog 37 #[v, .int .i64 left] w fun e w' => e = .returned (.int .i64 (if left < l.length then -1 else left - l.length)) ∧ w' = w := by
 obtain ⟨a, cap, rfl, -, hlc, hcm, -⟩ := h
 unfold maxLen at hcm
 by_cases hh : left < (l.length : Int)
 ·rw [if_pos hh]
  go_enter Tryz.func37, Tryz.ntmps37
  go_wp2
  go_ret
  exact ⟨rfl, rfl⟩
 ·rw [if_neg hh]
  go_enter Tryz.func37, Tryz.ntmps37
  go_wp2
  go_ret
  exact ⟨rfl, rfl⟩
theorem toMsg_any (m : M3) (w : World) : Calls Tryz.prog 95 #[m.val] w fun e w' => e = .returned m.val ∧ Below w.heap.size w w' := by
 obtain ⟨t, k, v⟩ := m
 have hB : Hid (Below w.heap.size w ((((w.alloc (.cells #[.int .i64 t, .int .i64 k, .int .i64 v] 121)).alloc (.cells #[.int .i64 t, .int .i64 k, .int .i64 v] 40)).alloc (.cells #[.int .i64 t, .int .i64 k, .int .i64 v] 40)))) := (((Below.refl _ w).alloc (Nat.le_refl _) _).alloc (by simp) _).alloc (by simp; omega) _
 rw [m3_val]
 go_enter Tryz.func95, Tryz.ntmps95
 go_wp2
 exact ret_row rfl rfl (((Row.new1 (w := w.alloc _) (n := w.heap.size + 1) (by simp) _ _).alloc _)) Tryz.underlying40 rfl info_m3 rfl ⟨rfl, hB.out⟩
theorem set3_step (l : List M3) (k : Nat) (h : k < l.length) : (l.take k ++ List.replicate (l.length - k) M3.nul).set k (M3.at' l k) = l.take (k + 1) ++ List.replicate (l.length - (k + 1)) M3.nul := by
 have e : l.length - k = (l.length - (k + 1)) + 1 := by omega
 rw [e, List.replicate_succ, List.set_append_right _ _ (by simp; omega), List.take_succ_eq_append_getElem h]
 have h1 : (l.take k).length = k := by simp; omega
 have h2 : M3.at' l k = l[k] := by
  unfold M3.at'
  simp [List.getD_eq_getElem?_getD, List.getElem?_eq_getElem h]
 rw [h1, Nat.sub_self, List.set_cons_zero, h2, List.append_assoc]
 rfl
theorem toMsgS_any (v : Value) (l : List M3) (w : World) (h : SlF fL w v l) (hb : l.length ≤ 4000000) :
  Calls Tryz.prog 39 #[v] w fun e w' => ∃ v', e = .returned v' ∧ OwnF fM w.heap.size w' v' l ∧ Below w.heap.size w w' := by
 have HS : Hid (SlF fL w v l) := h
 obtain ⟨a, cap, rfl, -, hlc, hcm, -⟩ := h
 unfold maxLen at hcm
 go_enter Tryz.func39, Tryz.ntmps39
 go_wp2_with (at_make; refine makeF okM rfl (.tmp 6) (.tmp 6) rfl w.heap.size l.length _ rfl rfl rfl (by omega) (Nat.le_refl _) ?_; intro w1 ho hg; have HO : Hid (OwnF fM w.heap.size w1 (.slice (some ⟨w.heap.size, 0, none⟩) l.length l.length) (l.take 0 ++ List.replicate (l.length - 0) M3.nul) ∧ Below w.heap.size w w1) := ⟨by rw [show l.take 0 ++ List.replicate (l.length - 0) M3.nul = List.replicate l.length fM.z by simp [fM]]; exact ho, (Below.refl _ _).grown hg (Nat.le_refl _) (by simp)⟩; clear ho hg)
 go_loopw [4] (fun i wr => ∃ k : Nat, k ≤ l.length ∧ i = .int .i64 k ∧ OwnF fM w.heap.size wr (.slice (some ⟨w.heap.size, 0, none⟩) l.length l.length) (l.take k ++ List.replicate (l.length - k) M3.nul) ∧ Below w.heap.size w wr) (fun i _ => l.length - (intOf i).toNat)
 case atStart => exact ⟨0, Nat.zero_le _, rfl, HO.out.1, HO.out.2⟩
 case round =>
  obtain ⟨k, hk, rfl, ho, hbw⟩ := hrel
  have HO2 : Hid (OwnF fM w.heap.size wr (.slice (some ⟨w.heap.size, 0, none⟩) l.length l.length) (l.take k ++ List.replicate (l.length - k) M3.nul)) := ho
  have HB : Hid (Below w.heap.size w wr) := hbw
  by_cases hlt : k < l.length
  ·obtain ⟨b, off, c, e, -, -, -⟩ := HS.out.shape (by omega)
   simp only [Value.slice.injEq] at e
   obtain ⟨rfl, -, rfl⟩ := e
   have hsl := HS.out.below hbw
   clear ho hbw
   go_wp2_with (first
    | (refine ixF okL (r := k) rfl rfl rfl rfl hlt ?_)
    | (refine elF okL rfl rfl rfl (hsl.range okL (at_some hlt)) ?_)
    | (go_at_call 95; refine (toMsg_any (M3.at' l k) _).mono ?_; rintro e w2 ⟨rfl, hb2⟩; have ho2 := HO2.out.below hb2; have hB2 := HB.out.trans (hb2.mono HB.out.size))
    | (refine ixF okM (r := k) rfl rfl rfl rfl hlt ?_)
    | (refine stF okM rfl rfl (e' := M3.at' l k) rfl rfl rfl rfl ho2 (at_some (by simp; omega)) (Nat.zero_add _) ?_; rintro w3 ho3 hg3; have hB3 := hB2.grown hg3 hB2.size (by intro q hq; cases hq; exact Nat.le_refl _)))
   go_roundw
   case rel => exact ⟨k + 1, by omega, by go_num, by rw [← set3_step l k hlt]; exact ho3, hB3⟩
   case measure => simp [intOf]; omega
  ·clear ho hbw
   go_wp2
   go_ret
   have e : k = l.length := by omega
   subst e
   exact ⟨_, rfl, by simpa using HO2.out, HB.out⟩
theorem eqMsg_same (m : M3) (w : World) : Calls Tryz.prog 100 #[m.val, m.val] w fun e w' => e = .returned (.bool true) ∧ Below w.heap.size w w' := by
 obtain ⟨t, k, v⟩ := m
 have hB : Hid (Below w.heap.size w ((w.alloc (.cells #[.int .i64 t, .int .i64 k, .int .i64 v] 40)).alloc (.cells #[.int .i64 t, .int .i64 k, .int .i64 v] 40))) := ((Below.refl _ w).alloc (Nat.le_refl _) _).alloc (by simp) _
 rw [m3_val]
 go_enter Tryz.func100, Tryz.ntmps100
 go_wp2
 go_ret
 exact ⟨rfl, hB.out⟩
structure Gii (f : Fl M3) (w : World) (v u : Value) (l : List M3) (W : World) : Prop where
 sl : SlF f W v l
 su : SlF f W u l
 bel : Below w.heap.size w W
theorem Gii.below {f : Fl M3} {w W W' : World} {v u : Value} {l : List M3} (h : Gii f w v u l W) (hb : Below W.heap.size W W') : Gii f w v u l W' := ⟨h.sl.below hb, h.su.below hb, below_more h.bel hb⟩
theorem Gii.drew {f : Fl M3} {w W : World} {v u : Value} {l : List M3} (h : Gii f w v u l W) : Gii f w v u l W.drew := h.below (drew_below (n := 1) rfl)
theorem eqMsgS_same (v u : Value) (l : List M3) (w : World) (h1 : SlF fM w v l) (h2 : SlF fM w u l) :
  Calls Tryz.prog 42 #[v, u] w fun e w' => e = .returned (.bool true) ∧ Below w.heap.size w w' := by
 have hG : Gii fM w v u l w := ⟨h1, h2, Below.refl _ _⟩
 obtain ⟨a, c, rfl, -, hlc, hcm, -⟩ := h1
 obtain ⟨a2, c2, rfl, -, hlc2, hcm2, -⟩ := h2
 unfold maxLen at hcm hcm2
 have hll : ((l.length : Int) != (l.length : Int)) = false := by simp
 go_enter Tryz.func42, Tryz.ntmps42
 go_wp2_with fail
 go_loopw [5] (fun i wr => ∃ k : Nat, k ≤ l.length ∧ i = .int .i64 k ∧ Gii fM w (.slice a l.length c) (.slice a2 l.length c2) l wr) (fun i _ => l.length - (intOf i).toNat)
 case atStart => exact ⟨0, Nat.zero_le _, rfl, hG⟩
 case round =>
  clear hG
  obtain ⟨k, hk, rfl, hG⟩ := hrel
  by_cases hlt : k < l.length
  ·obtain ⟨b, off, c', e, -, -, -⟩ := hG.sl.shape (by omega)
   simp only [Value.slice.injEq] at e
   obtain ⟨rfl, -, rfl⟩ := e
   obtain ⟨b2, off2, c2', e, -, -, -⟩ := hG.su.shape (by omega)
   simp only [Value.slice.injEq] at e
   obtain ⟨rfl, -, rfl⟩ := e
   go_wp2_with fail
   refine region_known (by kernel_rfl) (by kernel_rfl) 0 (by decide) (by kernel_rfl) (fun _ W => Gii fM w (.slice (some ⟨b, off, none⟩) l.length c) (.slice (some ⟨b2, off2, none⟩) l.length c2) l W) [.slice (some ⟨b, off, none⟩) l.length c, .int .i64 (k : Int), .pointer (some ⟨b, off + k * 3, none⟩), (M3.at' l k).val, .slice (some ⟨b2, off2, none⟩) l.length c2, .int .i64 (k : Int), .pointer (some ⟨b2, off2 + k * 3, none⟩), (M3.at' l k).val, .bool true, .bool false] hG.drew ?step ?done
   case step =>
    intro L ix o' A W hj hI hL hd
    have hin : ix < 10 := by
     by_cases hl : ix < 10
     ·exact hl
     ·simp [hl] at hj
    have hsz : A.tmps.size = 27 := hI.size
    have hg := hI.g
    rcases ix with _ | _ | _ | _ | _ | _ | _ | _ | _ | _ | ix
    ·cases hj; exact at_op rfl rfl (move_op rfl ⟨_, rfl, hI.old 0 (by kernel_rfl), hg⟩)
    ·cases hj; exact at_op rfl rfl (move_op rfl ⟨_, rfl, hI.old 5 (by kernel_rfl), hg⟩)
    ·cases hj
     have e0 : A.eval (.tmp 17) = .slice (some ⟨b, off, none⟩) l.length c := hI.val hd 0 17 rfl rfl (by kernel_rfl)
     have e1 : A.eval (.tmp 18) = .int .i64 (k : Int) := hI.val hd 1 18 rfl rfl (by kernel_rfl)
     exact at_op rfl rfl (ixF_op okM rfl e0 e1 (by omega) ⟨_, rfl, rfl, hg⟩)
    ·cases hj
     have e0 : A.eval (.tmp 19) = .pointer (some ⟨b, off + k * 3, none⟩) := hI.val hd 2 19 rfl rfl (by kernel_rfl)
     exact at_op rfl rfl (elF_op okM rfl e0 (hg.sl.range okM (at_some (by omega))) ⟨_, rfl, rfl, hg⟩)
    ·cases hj; exact at_op rfl rfl (move_op rfl ⟨_, rfl, hI.old 1 (by kernel_rfl), hg⟩)
    ·cases hj; exact at_op rfl rfl (move_op rfl ⟨_, rfl, hI.old 5 (by kernel_rfl), hg⟩)
    ·cases hj
     have e0 : A.eval (.tmp 21) = .slice (some ⟨b2, off2, none⟩) l.length c2 := hI.val hd 4 21 rfl rfl (by kernel_rfl)
     have e1 : A.eval (.tmp 22) = .int .i64 (k : Int) := hI.val hd 5 22 rfl rfl (by kernel_rfl)
     exact at_op rfl rfl (ixF_op okM rfl e0 e1 (by omega) ⟨_, rfl, rfl, hg⟩)
    ·cases hj
     have e0 : A.eval (.tmp 23) = .pointer (some ⟨b2, off2 + k * 3, none⟩) := hI.val hd 6 23 rfl rfl (by kernel_rfl)
     exact at_op rfl rfl (elF_op okM rfl e0 (hg.su.range okM (at_some (by omega))) ⟨_, rfl, rfl, hg⟩)
    ·cases hj
     have e0 : A.eval (.tmp 20) = (M3.at' l k).val := hI.val hd 3 20 rfl rfl (by kernel_rfl)
     have e1 : A.eval (.tmp 24) = (M3.at' l k).val := hI.val hd 7 24 rfl rfl (by kernel_rfl)
     refine at_op rfl rfl (call_op rfl Tryz.func100 (by kernel_rfl) (by kernel_rfl) ?_)
     simp only [List.map_cons, List.map_nil, e0, e1]
     refine (eqMsg_same _ _).mono ?_
     rintro e W1 ⟨rfl, hb⟩
     exact ⟨_, rfl, _, rfl, rfl, hg.below hb⟩
    ·cases hj; exact at_op rfl rfl (one_op (hI.val hd 8 25 rfl rfl (by kernel_rfl)) rfl (by kernel_rfl) ⟨_, rfl, rfl, hg⟩)
    omega
   case done =>
    intro A W hI
    have hg := hI.g
    have s26 : A.tmps.getD 26 undef = .bool false := hI.last 9 26 rfl
    have hA := hI.frame [17, 18, 19, 20, 21, 22, 23, 24, 25, 26] (by kernel_rfl)
    rw [hA]
    simp only [putAll, List.foldl_cons, List.foldl_nil, s26, Act.put, List.setIfInBounds_toArray, List.set_cons_zero, List.set_cons_succ]
    clear hA hI s26
    go_wp2
    go_roundw
    case rel => exact ⟨k + 1, by omega, by go_num, hg⟩
    case measure => simp [intOf]; omega
  ·have hbel := hG.bel
   clear hG
   go_wp2
   go_ret
   exact ⟨rfl, hbel⟩
end Go.Proofs.YtghmkacamabndaaGreatDoor.Mem
namespace Go.Proofs.YtghmkacamabndaaGreatDoor.Mem
open Go.ChangeShapes Go.WideShapes Go.RowKit Base Num Slc Slf Rw Tmr Reg Ex

def marks3 (k : Nat) : Nat → List M3
 | 0 => []
 | n + 1 => ⟨(k : Int), ((k + 1 : Nat) : Int), ((k + 2 : Nat) : Int)⟩ :: marks3 (k + 3) n
theorem marks3_length (k n : Nat) : (marks3 k n).length = n := by
 induction n generalizing k with
 | zero => rfl
 | succ n ih => simp [marks3, ih]
theorem marks3_snoc (k n : Nat) : marks3 k (n + 1) = marks3 k n ++ [⟨((k + 3 * n : Nat) : Int), ((k + 3 * n + 1 : Nat) : Int), ((k + 3 * n + 2 : Nat) : Int)⟩] := by
 induction n generalizing k with
 | zero => simp [marks3]
 | succ n ih =>
  have := ih (k + 3)
  rw [marks3, this, marks3]
  simp
  omega
theorem marks3_at (k n j : Nat) (h : j < n) : M3.at' (marks3 k n) j = ⟨((k + 3 * j : Nat) : Int), ((k + 3 * j + 1 : Nat) : Int), ((k + 3 * j + 2 : Nat) : Int)⟩ := by
 unfold M3.at'
 induction n generalizing k j with
 | zero => omega
 | succ n ih =>
  cases j with
  | zero => simp [marks3]
  | succ j =>
   have := ih (k + 3) j (by omega)
   simp only [marks3, List.getD_cons_succ, this]
   simp
   omega
theorem mark3_step (k : Nat) (l : List M3) (j : Nat) (h : j < l.length) : (marks3 k j ++ l.drop j).set j ⟨((k + 3 * j : Nat) : Int), ((k + 3 * j + 1 : Nat) : Int), ((k + 3 * j + 2 : Nat) : Int)⟩ = marks3 k (j + 1) ++ l.drop (j + 1) := by
 rw [marks3_snoc, List.set_append_right _ _ (by rw [marks3_length]; omega), marks3_length, Nat.sub_self, List.drop_eq_getElem_cons h, List.set_cons_zero]
 simp
theorem at_set {l : List M3} {i : Nat} {e : M3} (h : i < l.length) : (l.set i e)[i]? = some e := by simp [h]
theorem markMsgS_any (v : Value) (l : List M3) (w : World) (base k : Nat) (h : OwnF fM base w v l) (hb : l.length ≤ 4000000) (hk : k ≤ 1000000000) :
  Calls Tryz.prog 44 #[v, .int .i64 (k : Int)] w fun e w' => e = .returned (.int .i64 ((k + 3 * l.length : Nat) : Int)) ∧ OwnF fM base w' v (marks3 k l.length) ∧ w.grownBy w' v.ownBlock := by
 have HO : Hid (OwnF fM base w v l) := h
 rcases h.2 with ⟨rfl, h0⟩ | ⟨g, cap, cur, rfl, hbg, hg, hn, hm, hcs, ht⟩
 ·have hl : l = [] := List.eq_nil_of_length_eq_zero h0
  subst hl
  go_enter Tryz.func44, Tryz.ntmps44
  go_wp2
  refine wp_loop_rounds 1 ?_
  rw [rounds_succ]
  go_wp2
  go_ret
  exact ⟨rfl, OwnF.nil _ _ _, World.grownBy.refl _ _⟩
 ·unfold maxLen at hm
  clear h hg hcs ht cur
  go_enter Tryz.func44, Tryz.ntmps44
  go_wp2_with fail
  go_loopw [1, 5] (fun q i wr => ∃ j : Nat, j ≤ l.length ∧ i = .int .i64 j ∧ q = .int .i64 ((k + 3 * j : Nat) : Int) ∧ OwnF fM base wr (.slice (some ⟨g, 0, none⟩) l.length cap) (marks3 k j ++ l.drop j) ∧ w.grownBy wr (some g)) (fun _ i _ => l.length - (intOf i).toNat)
  case atStart => exact ⟨0, Nat.zero_le _, rfl, rfl, by simpa [marks3] using HO.out, World.grownBy.refl _ _⟩
  case round =>
   obtain ⟨j, hj, rfl, rfl, ho, hgw⟩ := hrel
   obtain ⟨L, HL⟩ : ∃ L, Hid (L = marks3 k j ++ l.drop j) := ⟨_, show _ = _ from rfl⟩
   rw [← HL.out] at ho
   by_cases hlt : j < l.length
   ·have hll : j < L.length := by rw [HL.out]; simp [marks3_length]; omega
    have hat := at_some hll
    generalize M3.at' L j = e0 at hat
    obtain ⟨z, hz⟩ : ∃ z, z = k + 3 * j := ⟨_, rfl⟩
    rw [← hz]
    have HZ : Hid (z = k + 3 * j) := hz
    have hzb : z ≤ 1012000000 := by omega
    clear hz
    go_wp2_with (first
     | (refine ixF okM (r := j) rfl rfl rfl rfl hlt ?_)
     | (refine stE okM rfl (e' := ⟨z, e0.k, e0.v⟩) (j := 0) rfl rfl rfl rfl ho hat rfl (by omega) rfl ?_; intro w1 ho1 hg1)
     | (refine stE okM rfl (e' := ⟨z, (z : Int) + 1, e0.v⟩) (j := 1) rfl rfl rfl rfl ho1 (at_set hll) rfl (by omega) rfl ?_; intro w2 ho2 hg2)
     | (refine stE okM rfl (e' := ⟨z, (z : Int) + 1, (z : Int) + 1 + 1⟩) (j := 2) rfl rfl rfl rfl ho2 (at_set (by simpa using hll)) rfl (by omega) rfl ?_; intro w3 ho3 hg3))
    go_roundw
    case rel =>
     refine ⟨j + 1, by omega, by go_num, ?_, ?_, grown_trans (grown_trans (grown_trans hgw hg1) hg2) hg3⟩
     ·rw [HZ.out]; go_num
     ·rw [← mark3_step k l j hlt, ← HL.out, ← HZ.out]
      have e3 : (⟨z, (z : Int) + 1, (z : Int) + 1 + 1⟩ : M3) = ⟨((z : Nat) : Int), ((z + 1 : Nat) : Int), ((z + 2 : Nat) : Int)⟩ := by simp; omega
      rw [List.set_set, List.set_set, e3] at ho3
      exact ho3
    case measure => simp [intOf]; omega
   ·have e : j = l.length := by omega
    subst e
    go_wp2
    go_ret
    exact ⟨rfl, by simpa [HL.out] using ho, hgw⟩
theorem heldMsgS_any (v : Value) (n : Nat) (w : World) (k : Nat) (h : SlF fM w v (marks3 k n)) (hb : n ≤ 4000000) (hk : k ≤ 1000000000) :
  Calls Tryz.prog 104 #[v, .int .i64 (k : Int)] w fun e w' => e = .returned (.int .i64 ((k + 3 * n : Nat) : Int)) ∧ w' = w := by
 have HS : Hid (SlF fM w v (marks3 k n)) := h
 obtain ⟨a, cap, rfl, -, hlc, hcm, -⟩ := h
 unfold maxLen at hcm
 rw [marks3_length] at *
 go_enter Tryz.func104, Tryz.ntmps104
 go_wp2_with fail
 go_loop [1, 5] (fun q i => ∃ j : Nat, j ≤ n ∧ i = .int .i64 j ∧ q = .int .i64 ((k + 3 * j : Nat) : Int)) (fun _ i => n - (intOf i).toNat)
 case atStart => exact ⟨0, Nat.zero_le _, rfl, rfl⟩
 case round =>
  obtain ⟨j, hj, rfl, rfl⟩ := hrel
  by_cases hlt : j < n
  ·have hll : j < (marks3 k n).length := by rw [marks3_length]; exact hlt
   obtain ⟨b, off, c, e, -, -, -⟩ := HS.out.shape (by rw [marks3_length]; omega)
   simp only [Value.slice.injEq] at e
   obtain ⟨rfl, -, rfl⟩ := e
   have hc := HS.out
   have c0 := hc.cell okM (at_some hll) (j := 0) (by decide)
   have c1 := hc.cell okM (at_some hll) (j := 1) (by decide)
   have c2 := hc.cell okM (at_some hll) (j := 2) (by decide)
   rw [marks3_at k n j hlt] at c0 c1 c2
   clear hc
   obtain ⟨z, hz⟩ : ∃ z, z = k + 3 * j := ⟨_, rfl⟩
   rw [← hz] at c0 c1 c2 ⊢
   have HZ : Hid (z = k + 3 * j) := hz
   have hzb : z ≤ 1012000000 := by omega
   clear hz
   have d0 : w.cell? ⟨b, off + j * fM.n, none⟩ = some (.int .i64 (z : Int)) := c0
   have d1 : w.cell? ⟨b, off + j * fM.n + 1, none⟩ = some (.int .i64 ((z + 1 : Nat) : Int)) := c1
   have d2 : w.cell? ⟨b, off + j * fM.n + 2, none⟩ = some (.int .i64 ((z + 2 : Nat) : Int)) := c2
   clear c0 c1 c2 hll
   go_wp2_with (refine ixF okM (r := j) rfl rfl rfl rfl hlt ?_)
   go_round
   case rel => exact ⟨j + 1, by omega, by go_num, by rw [HZ.out]; go_num⟩
   case measure => simp [intOf]; omega
  ·have e : j = n := by omega
   subst e
   go_wp2
   go_ret
   exact ⟨rfl, rfl⟩
end Go.Proofs.YtghmkacamabndaaGreatDoor.Mem
namespace Go.Proofs.YtghmkacamabndaaGreatDoor.Mem
open Go.ChangeShapes Go.WideShapes Go.RowKit Base Num Slc Slf Rw Tmr Reg Ex

theorem eqEv_same (m : M3) (w : World) : Calls Tryz.prog 149 #[m.val, m.val] w fun e w' => e = .returned (.bool true) ∧ Below w.heap.size w w' := by
 obtain ⟨t, k, v⟩ := m
 have hB : Hid (Below w.heap.size w ((w.alloc (.cells #[.int .i64 t, .int .i64 k, .int .i64 v] 142)).alloc (.cells #[.int .i64 t, .int .i64 k, .int .i64 v] 142))) := ((Below.refl _ w).alloc (Nat.le_refl _) _).alloc (by simp) _
 rw [m3_val]
 go_enter Tryz.func149, Tryz.ntmps149
 go_wp2
 go_ret
 exact ⟨rfl, hB.out⟩
theorem eqEvS_same (v u : Value) (l : List M3) (w : World) (h1 : SlF fE w v l) (h2 : SlF fE w u l) :
  Calls Tryz.prog 96 #[v, u] w fun e w' => e = .returned (.bool true) ∧ Below w.heap.size w w' := by
 have hG : Gii fE w v u l w := ⟨h1, h2, Below.refl _ _⟩
 obtain ⟨a, c, rfl, -, hlc, hcm, -⟩ := h1
 obtain ⟨a2, c2, rfl, -, hlc2, hcm2, -⟩ := h2
 unfold maxLen at hcm hcm2
 have hll : ((l.length : Int) != (l.length : Int)) = false := by simp
 go_enter Tryz.func96, Tryz.ntmps96
 go_wp2_with fail
 go_loopw [5] (fun i wr => ∃ k : Nat, k ≤ l.length ∧ i = .int .i64 k ∧ Gii fE w (.slice a l.length c) (.slice a2 l.length c2) l wr) (fun i _ => l.length - (intOf i).toNat)
 case atStart => exact ⟨0, Nat.zero_le _, rfl, hG⟩
 case round =>
  clear hG
  obtain ⟨k, hk, rfl, hG⟩ := hrel
  by_cases hlt : k < l.length
  ·obtain ⟨b, off, c', e, -, -, -⟩ := hG.sl.shape (by omega)
   simp only [Value.slice.injEq] at e
   obtain ⟨rfl, -, rfl⟩ := e
   obtain ⟨b2, off2, c2', e, -, -, -⟩ := hG.su.shape (by omega)
   simp only [Value.slice.injEq] at e
   obtain ⟨rfl, -, rfl⟩ := e
   go_wp2_with fail
   refine region_known (by kernel_rfl) (by kernel_rfl) 0 (by decide) (by kernel_rfl) (fun _ W => Gii fE w (.slice (some ⟨b, off, none⟩) l.length c) (.slice (some ⟨b2, off2, none⟩) l.length c2) l W) [.slice (some ⟨b, off, none⟩) l.length c, .int .i64 (k : Int), .pointer (some ⟨b, off + k * 3, none⟩), (M3.at' l k).val, .slice (some ⟨b2, off2, none⟩) l.length c2, .int .i64 (k : Int), .pointer (some ⟨b2, off2 + k * 3, none⟩), (M3.at' l k).val, .bool true, .bool false] hG.drew ?step ?done
   case step =>
    intro L ix o' A W hj hI hL hd
    have hin : ix < 10 := by
     by_cases hl : ix < 10
     ·exact hl
     ·simp [hl] at hj
    have hsz : A.tmps.size = 27 := hI.size
    have hg := hI.g
    rcases ix with _ | _ | _ | _ | _ | _ | _ | _ | _ | _ | ix
    ·cases hj; exact at_op rfl rfl (move_op rfl ⟨_, rfl, hI.old 0 (by kernel_rfl), hg⟩)
    ·cases hj; exact at_op rfl rfl (move_op rfl ⟨_, rfl, hI.old 5 (by kernel_rfl), hg⟩)
    ·cases hj
     have e0 : A.eval (.tmp 17) = .slice (some ⟨b, off, none⟩) l.length c := hI.val hd 0 17 rfl rfl (by kernel_rfl)
     have e1 : A.eval (.tmp 18) = .int .i64 (k : Int) := hI.val hd 1 18 rfl rfl (by kernel_rfl)
     exact at_op rfl rfl (ixF_op okE rfl e0 e1 (by omega) ⟨_, rfl, rfl, hg⟩)
    ·cases hj
     have e0 : A.eval (.tmp 19) = .pointer (some ⟨b, off + k * 3, none⟩) := hI.val hd 2 19 rfl rfl (by kernel_rfl)
     exact at_op rfl rfl (elF_op okE rfl e0 (hg.sl.range okE (at_some (by omega))) ⟨_, rfl, rfl, hg⟩)
    ·cases hj; exact at_op rfl rfl (move_op rfl ⟨_, rfl, hI.old 1 (by kernel_rfl), hg⟩)
    ·cases hj; exact at_op rfl rfl (move_op rfl ⟨_, rfl, hI.old 5 (by kernel_rfl), hg⟩)
    ·cases hj
     have e0 : A.eval (.tmp 21) = .slice (some ⟨b2, off2, none⟩) l.length c2 := hI.val hd 4 21 rfl rfl (by kernel_rfl)
     have e1 : A.eval (.tmp 22) = .int .i64 (k : Int) := hI.val hd 5 22 rfl rfl (by kernel_rfl)
     exact at_op rfl rfl (ixF_op okE rfl e0 e1 (by omega) ⟨_, rfl, rfl, hg⟩)
    ·cases hj
     have e0 : A.eval (.tmp 23) = .pointer (some ⟨b2, off2 + k * 3, none⟩) := hI.val hd 6 23 rfl rfl (by kernel_rfl)
     exact at_op rfl rfl (elF_op okE rfl e0 (hg.su.range okE (at_some (by omega))) ⟨_, rfl, rfl, hg⟩)
    ·cases hj
     have e0 : A.eval (.tmp 20) = (M3.at' l k).val := hI.val hd 3 20 rfl rfl (by kernel_rfl)
     have e1 : A.eval (.tmp 24) = (M3.at' l k).val := hI.val hd 7 24 rfl rfl (by kernel_rfl)
     refine at_op rfl rfl (call_op rfl Tryz.func149 (by kernel_rfl) (by kernel_rfl) ?_)
     simp only [List.map_cons, List.map_nil, e0, e1]
     refine (eqEv_same _ _).mono ?_
     rintro e W1 ⟨rfl, hb⟩
     exact ⟨_, rfl, _, rfl, rfl, hg.below hb⟩
    ·cases hj; exact at_op rfl rfl (one_op (hI.val hd 8 25 rfl rfl (by kernel_rfl)) rfl (by kernel_rfl) ⟨_, rfl, rfl, hg⟩)
    omega
   case done =>
    intro A W hI
    have hg := hI.g
    have s26 : A.tmps.getD 26 undef = .bool false := hI.last 9 26 rfl
    have hA := hI.frame [17, 18, 19, 20, 21, 22, 23, 24, 25, 26] (by kernel_rfl)
    rw [hA]
    simp only [putAll, List.foldl_cons, List.foldl_nil, s26, Act.put, List.setIfInBounds_toArray, List.set_cons_zero, List.set_cons_succ]
    clear hA hI s26
    go_wp2
    go_roundw
    case rel => exact ⟨k + 1, by omega, by go_num, hg⟩
    case measure => simp [intOf]; omega
  ·have hbel := hG.bel
   clear hG
   go_wp2
   go_ret
   exact ⟨rfl, hbel⟩
theorem markEvS_any (v : Value) (l : List M3) (w : World) (base k : Nat) (h : OwnF fE base w v l) (hb : l.length ≤ 4000000) (hk : k ≤ 1000000000) :
  Calls Tryz.prog 102 #[v, .int .i64 (k : Int)] w fun e w' => e = .returned (.int .i64 ((k + 3 * l.length : Nat) : Int)) ∧ OwnF fE base w' v (marks3 k l.length) ∧ w.grownBy w' v.ownBlock := by
 have HO : Hid (OwnF fE base w v l) := h
 rcases h.2 with ⟨rfl, h0⟩ | ⟨g, cap, cur, rfl, hbg, hg, hn, hm, hcs, ht⟩
 ·have hl : l = [] := List.eq_nil_of_length_eq_zero h0
  subst hl
  go_enter Tryz.func102, Tryz.ntmps102
  go_wp2
  refine wp_loop_rounds 1 ?_
  rw [rounds_succ]
  go_wp2
  go_ret
  exact ⟨rfl, OwnF.nil _ _ _, World.grownBy.refl _ _⟩
 ·unfold maxLen at hm
  clear h hg hcs ht cur
  go_enter Tryz.func102, Tryz.ntmps102
  go_wp2_with fail
  go_loopw [1, 5] (fun q i wr => ∃ j : Nat, j ≤ l.length ∧ i = .int .i64 j ∧ q = .int .i64 ((k + 3 * j : Nat) : Int) ∧ OwnF fE base wr (.slice (some ⟨g, 0, none⟩) l.length cap) (marks3 k j ++ l.drop j) ∧ w.grownBy wr (some g)) (fun _ i _ => l.length - (intOf i).toNat)
  case atStart => exact ⟨0, Nat.zero_le _, rfl, rfl, by simpa [marks3] using HO.out, World.grownBy.refl _ _⟩
  case round =>
   obtain ⟨j, hj, rfl, rfl, ho, hgw⟩ := hrel
   obtain ⟨L, HL⟩ : ∃ L, Hid (L = marks3 k j ++ l.drop j) := ⟨_, show _ = _ from rfl⟩
   rw [← HL.out] at ho
   by_cases hlt : j < l.length
   ·have hll : j < L.length := by rw [HL.out]; simp [marks3_length]; omega
    have hat := at_some hll
    generalize M3.at' L j = e0 at hat
    obtain ⟨z, hz⟩ : ∃ z, z = k + 3 * j := ⟨_, rfl⟩
    rw [← hz]
    have HZ : Hid (z = k + 3 * j) := hz
    have hzb : z ≤ 1012000000 := by omega
    clear hz
    go_wp2_with (first
     | (refine ixF okE (r := j) rfl rfl rfl rfl hlt ?_)
     | (refine stE okE rfl (e' := ⟨z, e0.k, e0.v⟩) (j := 0) rfl rfl rfl rfl ho hat rfl (by omega) rfl ?_; intro w1 ho1 hg1)
     | (refine stE okE rfl (e' := ⟨z, (z : Int) + 1, e0.v⟩) (j := 1) rfl rfl rfl rfl ho1 (at_set hll) rfl (by omega) rfl ?_; intro w2 ho2 hg2)
     | (refine stE okE rfl (e' := ⟨z, (z : Int) + 1, (z : Int) + 1 + 1⟩) (j := 2) rfl rfl rfl rfl ho2 (at_set (by simpa using hll)) rfl (by omega) rfl ?_; intro w3 ho3 hg3))
    go_roundw
    case rel =>
     refine ⟨j + 1, by omega, by go_num, ?_, ?_, grown_trans (grown_trans (grown_trans hgw hg1) hg2) hg3⟩
     ·rw [HZ.out]; go_num
     ·rw [← mark3_step k l j hlt, ← HL.out, ← HZ.out]
      have e3 : (⟨z, (z : Int) + 1, (z : Int) + 1 + 1⟩ : M3) = ⟨((z : Nat) : Int), ((z + 1 : Nat) : Int), ((z + 2 : Nat) : Int)⟩ := by simp; omega
      rw [List.set_set, List.set_set, e3] at ho3
      exact ho3
    case measure => simp [intOf]; omega
   ·have e : j = l.length := by omega
    subst e
    go_wp2
    go_ret
    exact ⟨rfl, by simpa [HL.out] using ho, hgw⟩
theorem heldEvS_any (v : Value) (n : Nat) (w : World) (k : Nat) (h : SlF fE w v (marks3 k n)) (hb : n ≤ 4000000) (hk : k ≤ 1000000000) :
  Calls Tryz.prog 105 #[v, .int .i64 (k : Int)] w fun e w' => e = .returned (.int .i64 ((k + 3 * n : Nat) : Int)) ∧ w' = w := by
 have HS : Hid (SlF fE w v (marks3 k n)) := h
 obtain ⟨a, cap, rfl, -, hlc, hcm, -⟩ := h
 unfold maxLen at hcm
 rw [marks3_length] at *
 go_enter Tryz.func105, Tryz.ntmps105
 go_wp2_with fail
 go_loop [1, 5] (fun q i => ∃ j : Nat, j ≤ n ∧ i = .int .i64 j ∧ q = .int .i64 ((k + 3 * j : Nat) : Int)) (fun _ i => n - (intOf i).toNat)
 case atStart => exact ⟨0, Nat.zero_le _, rfl, rfl⟩
 case round =>
  obtain ⟨j, hj, rfl, rfl⟩ := hrel
  by_cases hlt : j < n
  ·have hll : j < (marks3 k n).length := by rw [marks3_length]; exact hlt
   obtain ⟨b, off, c, e, -, -, -⟩ := HS.out.shape (by rw [marks3_length]; omega)
   simp only [Value.slice.injEq] at e
   obtain ⟨rfl, -, rfl⟩ := e
   have hc := HS.out
   have c0 := hc.cell okE (at_some hll) (j := 0) (by decide)
   have c1 := hc.cell okE (at_some hll) (j := 1) (by decide)
   have c2 := hc.cell okE (at_some hll) (j := 2) (by decide)
   rw [marks3_at k n j hlt] at c0 c1 c2
   clear hc
   obtain ⟨z, hz⟩ : ∃ z, z = k + 3 * j := ⟨_, rfl⟩
   rw [← hz] at c0 c1 c2 ⊢
   have HZ : Hid (z = k + 3 * j) := hz
   have hzb : z ≤ 1012000000 := by omega
   clear hz
   have d0 : w.cell? ⟨b, off + j * fE.n, none⟩ = some (.int .i64 (z : Int)) := c0
   have d1 : w.cell? ⟨b, off + j * fE.n + 1, none⟩ = some (.int .i64 ((z + 1 : Nat) : Int)) := c1
   have d2 : w.cell? ⟨b, off + j * fE.n + 2, none⟩ = some (.int .i64 ((z + 2 : Nat) : Int)) := c2
   clear c0 c1 c2 hll
   go_wp2_with (refine ixF okE (r := j) rfl rfl rfl rfl hlt ?_)
   go_round
   case rel => exact ⟨j + 1, by omega, by go_num, by rw [HZ.out]; go_num⟩
   case measure => simp [intOf]; omega
  ·have e : j = n := by omega
   subst e
   go_wp2
   go_ret
   exact ⟨rfl, rfl⟩
end Go.Proofs.YtghmkacamabndaaGreatDoor.Mem
namespace Go.Proofs.YtghmkacamabndaaGreatDoor.Rom
open Go.ChangeShapes Go.WideShapes Go.RowKit Base Slc Num

theorem all_take_succ (l : List Int) (k : Nat) (h : k < l.length) : (l.take (k + 1)).all bok = ((l.take k).all bok && bok (l.getD k 0)) := by
 rw [getD_take h]; simp
theorem all_false (l : List Int) (k : Nat) (h : k < l.length) (hb : bok (l.getD k 0) = false) : l.all bok = false := by
 rw [List.all_eq_false]
 refine ⟨l[k], List.getElem_mem h, ?_⟩
 rw [List.getD_eq_getElem?_getD, List.getElem?_eq_getElem h] at hb
 simpa using hb

theorem bytes_spec (a : Option Addr) (len cap : Nat) (l : List Int) (w : World) (hl : IntsAt w a len l) (hm : len ≤ maxLen) :
  Calls Tryz.prog 121 #[.slice a len cap] w fun e w' => e = .returned (.bool (l.all bok)) ∧ w' = w := by
 unfold maxLen at hm
 obtain ⟨hlen, hc⟩ := hl
 go_enter Tryz.func121, Tryz.ntmps121
 go_wp2
 go_loop [3] (fun i => ∃ k : Nat, k ≤ len ∧ i = .int .i64 k ∧ (l.take k).all bok = true) (fun i => len - (intOf i).toNat)
 case atStart => exact ⟨0, Nat.zero_le _, rfl, by simp⟩
 case round =>
  obtain ⟨k, hk, rfl, hall⟩ := hrel
  have HA : Hid ((l.take k).all bok = true) := hall
  clear hall
  by_cases hlt : k < len
  ·rcases hc with h0 | ⟨b, off, rfl, hb, hcell⟩
   ·omega
   ·have hz := hcell k hlt
    clear hcell
    obtain ⟨z, hzz⟩ : ∃ z, z = l.getD k 0 := ⟨_, rfl⟩
    rw [← hzz] at hz
    have HZ : Hid (z = l.getD k 0) := hzz
    clear hzz
    by_cases hbk : bok z = true
    ·go_wp2_with (go_at_call 122; refine (byteOk_spec _ _).mono ?_; rintro e w' ⟨rfl, rfl⟩)
     go_round
     case rel => exact ⟨k + 1, by omega, by go_num, by rw [all_take_succ l k (by omega), HA.out, ← HZ.out, hbk]; rfl⟩
     case measure => simp [intOf]; omega
    ·have hbk' : bok z = false := by simpa using hbk
     clear hbk
     go_wp2_with (go_at_call 122; refine (byteOk_spec _ _).mono ?_; rintro e w' ⟨rfl, rfl⟩)
     go_ret
     exact ⟨ret_bool (all_false l k (by omega) (by rw [← HZ.out]; exact hbk')).symm, rfl⟩
  ·go_wp2
   go_ret
   have e : l.take k = l := List.take_of_length_le (by omega)
   have h := HA.out
   rw [e] at h
   exact ⟨ret_bool h.symm, rfl⟩

theorem bytes_impl (a : Option Addr) (len cap : Nat) (l : List Int) (w : World) (hl : IntsAt w a len l) (hm : len ≤ maxLen) :
  Calls Tryz.prog 74 #[.slice a len cap] w fun e w' => e = .returned (.bool (l.all bok)) ∧ w' = w := by
 unfold maxLen at hm
 obtain ⟨hlen, hc⟩ := hl
 go_enter Tryz.func74, Tryz.ntmps74
 go_wp2
 go_loop [7] (fun i => ∃ k : Nat, k ≤ len ∧ i = .int .i64 k ∧ (l.take k).all bok = true) (fun i => len - (intOf i).toNat)
 case atStart => exact ⟨0, Nat.zero_le _, rfl, by simp⟩
 case round =>
  obtain ⟨k, hk, rfl, hall⟩ := hrel
  have HA : Hid ((l.take k).all bok = true) := hall
  clear hall
  by_cases hlt : k < len
  ·rcases hc with h0 | ⟨b, off, rfl, hb, hcell⟩
   ·omega
   ·have hz := hcell k hlt
    clear hcell
    obtain ⟨z, hzz⟩ : ∃ z, z = l.getD k 0 := ⟨_, rfl⟩
    rw [← hzz] at hz
    have HZ : Hid (z = l.getD k 0) := hzz
    clear hzz
    by_cases hbk : bok z = true
    ·go_wp2_with (go_at_call 75; refine (byteOk_impl _ _).mono ?_; rintro e w' ⟨rfl, rfl⟩)
     go_round
     case rel => exact ⟨k + 1, by omega, by go_num, by rw [all_take_succ l k (by omega), HA.out, ← HZ.out, hbk]; rfl⟩
     case measure => simp [intOf]; omega
    ·have hbk' : bok z = false := by simpa using hbk
     clear hbk
     go_wp2_with (go_at_call 75; refine (byteOk_impl _ _).mono ?_; rintro e w' ⟨rfl, rfl⟩)
     go_ret
     exact ⟨ret_bool (all_false l k (by omega) (by rw [← HZ.out]; exact hbk')).symm, rfl⟩
  ·go_wp2
   go_ret
   have e : l.take k = l := List.take_of_length_le (by omega)
   have h := HA.out
   rw [e] at h
   exact ⟨ret_bool h.symm, rfl⟩

def sumR (n : Int) (l : List Int) : Int := l.foldl (fun s x => (s + x) % 256) n
def chk (l : List Int) : Int := if l.all bok then sumR 25 l else -1
theorem sumR_snoc (n : Int) (l : List Int) (x : Int) : sumR n (l ++ [x]) = (sumR n l + x) % 256 := by simp [sumR]
theorem sumR_ok (n : Int) (l : List Int) (hn : bok n = true) : bok (sumR n l) = true := by
 unfold sumR
 induction l generalizing n with
 | nil => exact hn
 | cons x l ih => exact ih _ (show bok ((n + x) % 256) = true from bok_mk (by omega) (by omega))
theorem all_getD {l : List Int} (h : l.all bok = true) {k : Nat} (hk : k < l.length) : bok (l.getD k 0) = true := by
 rw [List.all_eq_true] at h
 rw [List.getD_eq_getElem?_getD, List.getElem?_eq_getElem hk]
 exact h _ (List.getElem_mem hk)

theorem checkOf_spec (a : Option Addr) (len cap : Nat) (l : List Int) (w : World) (hl : IntsAt w a len l) (hm : len ≤ maxLen) :
  Calls Tryz.prog 80 #[.slice a len cap] w fun e w' => e = .returned (.int .i64 (chk l)) ∧ w' = w := by
 by_cases hall : l.all bok = true
 ·have HL : Hid (IntsAt w a len l) := hl
  have HM : Hid (len ≤ maxLen) := hm
  have e1 : chk l = sumR 25 l := by simp [chk, hall]
  have HE : Hid (chk l = sumR 25 l) := e1
  unfold maxLen at hm
  obtain ⟨hlen, hc⟩ := hl
  clear e1
  go_enter Tryz.func80, Tryz.ntmps80
  go_wp2_with (go_at_call 121; refine (bytes_spec _ _ _ _ _ HL.out HM.out).mono ?_; rintro e w' ⟨rfl, rfl⟩)
  go_loop [3, 4] (fun n i => ∃ k : Nat, k ≤ len ∧ i = .int .i64 k ∧ n = .int .i64 (sumR 25 (l.take k))) (fun _ i => len - (intOf i).toNat)
  case atStart => exact ⟨0, Nat.zero_le _, rfl, rfl⟩
  case round =>
   obtain ⟨k, hk, rfl, rfl⟩ := hrel
   obtain ⟨s, hs⟩ : ∃ s, s = sumR 25 (l.take k) := ⟨_, rfl⟩
   have hsb := bok_true (sumR_ok 25 (l.take k) (by decide))
   rw [← hs] at hsb ⊢
   have HS : Hid (s = sumR 25 (l.take k)) := hs
   clear hs
   by_cases hlt : k < len
   ·rcases hc with h0 | ⟨b, off, rfl, hb, hcell⟩
    ·omega
    ·have hz := hcell k hlt
     have hzb := bok_true (all_getD hall (k := k) (by omega))
     clear hcell
     obtain ⟨z, hzz⟩ : ∃ z, z = l.getD k 0 := ⟨_, rfl⟩
     rw [← hzz] at hz hzb
     have HZ : Hid (z = l.getD k 0) := hzz
     clear hzz
     go_wp2
     go_round
     case rel => exact ⟨k + 1, by omega, by go_num, by rw [getD_take (by omega), sumR_snoc, ← HZ.out, ← HS.out]⟩
     case measure => simp [intOf]; omega
   ·go_wp2
    go_ret
    exact ⟨ret_int (by rw [HE.out, HS.out, List.take_of_length_le (by omega)]), rfl⟩
 ·have hall' : l.all bok = false := by simpa using hall
  have e1 : chk l = -1 := by simp [chk, hall']
  rw [e1]
  go_enter Tryz.func80, Tryz.ntmps80
  go_wp2_with (go_at_call 121; refine (bytes_spec _ _ _ _ _ hl hm).mono ?_; rintro e w' ⟨rfl, rfl⟩)
  go_ret
  exact ⟨rfl, rfl⟩

theorem add_round {s z : Int} (hs : bok s = true) (hz : bok z = true) : addB s z = (s + z) % 256 := by simp [addB, hs, hz]
theorem roundSum_impl (n : Int) (a : Option Addr) (len cap : Nat) (l : List Int) (w : World) (hl : IntsAt w a len l) (hm : len ≤ maxLen) (hall : l.all bok = true) (hn : bok n = true) :
  Calls Tryz.prog 181 #[.int .i64 n, .slice a len cap] w fun e w' => e = .returned (.int .i64 (sumR n l)) ∧ w' = w := by
 unfold maxLen at hm
 obtain ⟨hlen, hc⟩ := hl
 go_enter Tryz.func181, Tryz.ntmps181
 go_wp2
 go_loop [5, 11] (fun s i => ∃ k : Nat, k ≤ len ∧ i = .int .i64 k ∧ s = .int .i64 (sumR n (l.take k))) (fun _ i => len - (intOf i).toNat)
 case atStart => exact ⟨0, Nat.zero_le _, rfl, rfl⟩
 case round =>
  obtain ⟨k, hk, rfl, rfl⟩ := hrel
  obtain ⟨s, hs⟩ : ∃ s, s = sumR n (l.take k) := ⟨_, rfl⟩
  have hsb := sumR_ok n (l.take k) hn
  rw [← hs] at hsb ⊢
  have HS : Hid (s = sumR n (l.take k)) := hs
  clear hs
  by_cases hlt : k < len
  ·rcases hc with h0 | ⟨b, off, rfl, hb, hcell⟩
   ·omega
   ·have hz := hcell k hlt
    have hzb := all_getD hall (k := k) (by omega)
    clear hcell
    obtain ⟨z, hzz⟩ : ∃ z, z = l.getD k 0 := ⟨_, rfl⟩
    rw [← hzz] at hz hzb
    have HZ : Hid (z = l.getD k 0) := hzz
    clear hzz
    go_wp2_with (go_at_call 188; refine (addByte_impl _ _ _).mono ?_; rintro e w' ⟨rfl, rfl⟩)
    go_round
    case rel => exact ⟨k + 1, by omega, by go_num, by rw [getD_take (by omega), sumR_snoc, ← HZ.out, ← HS.out, ← add_round hsb hzb]⟩
    case measure => simp [intOf]; omega
  ·go_wp2
   go_ret
   exact ⟨ret_int (by rw [HS.out, List.take_of_length_le (by omega)]), rfl⟩
theorem checkOf_impl (a : Option Addr) (len cap : Nat) (l : List Int) (w : World) (hl : IntsAt w a len l) (hm : len ≤ maxLen) :
  Calls Tryz.prog 139 #[.slice a len cap] w fun e w' => e = .returned (.int .i64 (chk l)) ∧ w' = w := by
 by_cases hall : l.all bok = true
 ·have e1 : chk l = sumR 25 l := by simp [chk, hall]
  rw [e1]
  go_enter Tryz.func139, Tryz.ntmps139
  go_wp2_with (first
   | (go_at_call 74; refine (bytes_impl _ _ _ _ _ hl hm).mono ?_; rintro e w' ⟨rfl, rfl⟩)
   | (go_at_call 181; refine (roundSum_impl 25 _ _ _ _ _ hl hm hall (by decide)).mono ?_; rintro e w' ⟨rfl, rfl⟩))
  go_ret
  exact ⟨rfl, rfl⟩
 ·have hall' : l.all bok = false := by simpa using hall
  have e1 : chk l = -1 := by simp [chk, hall']
  rw [e1]
  go_enter Tryz.func139, Tryz.ntmps139
  go_wp2_with (go_at_call 74; refine (bytes_impl _ _ _ _ _ hl hm).mono ?_; rintro e w' ⟨rfl, rfl⟩)
  go_ret
  exact ⟨rfl, rfl⟩

def romOk (l : List Int) : Bool := decide (2 ≤ l.length) && decide (l.length ≤ 128) && l.all bok && (l.getD (l.length - 1) 0 == chk (l.take (l.length - 1)))
theorem romOk_short {l : List Int} (h : l.length < 2) : romOk l = false := by unfold romOk; rw [decide_eq_false (by omega)]; rfl
theorem romOk_long {l : List Int} (h : 128 < l.length) : romOk l = false := by unfold romOk; rw [decide_eq_false (p := l.length ≤ 128) (by omega)]; simp
theorem romOk_wrong {l : List Int} (h : l.all bok = false) : romOk l = false := by unfold romOk; rw [h]; simp
theorem romOk_mid {l : List Int} (h2 : 2 ≤ l.length) (h128 : l.length ≤ 128) (h : l.all bok = true) : romOk l = (l.getD (l.length - 1) 0 == chk (l.take (l.length - 1))) := by
 unfold romOk; rw [h, decide_eq_true h2, decide_eq_true h128]; simp
theorem split_last {l : List Int} (h : 0 < l.length) : l.all bok = ((l.take (l.length - 1)).all bok && bok (l.getD (l.length - 1) 0)) := by
 have := all_take_succ l (l.length - 1) (by omega)
 rw [← this, List.take_of_length_le (by omega)]
theorem romOk_last {l : List Int} (h : 0 < l.length) (hb : bok (l.getD (l.length - 1) 0) = false) : romOk l = false := romOk_wrong (by rw [split_last h, hb]; simp)
theorem romOk_last_ok {l : List Int} (h2 : 2 ≤ l.length) (h128 : l.length ≤ 128) (hb : bok (l.getD (l.length - 1) 0) = true) : romOk l = (l.getD (l.length - 1) 0 == chk (l.take (l.length - 1))) := by
 by_cases hall : (l.take (l.length - 1)).all bok = true
 ·exact romOk_mid h2 h128 (by rw [split_last (by omega), hall, hb]; rfl)
 ·have hall' : (l.take (l.length - 1)).all bok = false := by simpa using hall
  rw [romOk_wrong (by rw [split_last (by omega), hall']; rfl)]
  have e1 : chk (l.take (l.length - 1)) = -1 := by simp [chk, hall']
  have := bok_true hb
  rw [e1, beq_eq_false_iff_ne.mpr (by omega)]

theorem romOk_spec (a : Option Addr) (len cap : Nat) (l : List Int) (w : World) (hl : IntsAt w a len l) (hm : len ≤ cap) (hcm : cap ≤ maxLen) :
  Calls Tryz.prog 81 #[.slice a len cap] w fun e w' => e = .returned (.bool (romOk l)) ∧ ∃ n, w' = w.drewN n := by
 have HL : Hid (IntsAt w a len l) := hl
 have HM : Hid (len ≤ maxLen) := Nat.le_trans hm hcm
 unfold maxLen at hcm
 obtain ⟨hlen, hc⟩ := hl
 by_cases h2 : 2 ≤ len
 ·by_cases h128 : len ≤ 128
  ·by_cases hall : l.all bok = true
   ·rcases hc with h0 | ⟨b, off, rfl, hb, hcell⟩
    ·omega
    ·obtain ⟨m, hmm⟩ : ∃ m, m = len - 1 := ⟨_, rfl⟩
     have hz := hcell m (by omega)
     clear hcell
     obtain ⟨z, hzz⟩ : ∃ z, z = l.getD m 0 := ⟨_, rfl⟩
     rw [← hzz] at hz
     have HE : Hid (romOk l = (z == chk (l.take m))) := by rw [hzz, hmm, ← hlen]; exact romOk_mid (by omega) (by omega) hall
     clear hzz
     have ht : IntsAt w (some ⟨b, off, none⟩) m (l.take m) := HL.out.take _ (by omega)
     have HT : Hid (IntsAt w (some ⟨b, off, none⟩) m (l.take m)) := ht
     have HTM : Hid (m ≤ maxLen) := by show m ≤ maxLen; unfold maxLen; omega
     have hml : m < len := by omega
     have hmi : (m : Int) < (len : Int) := by omega
     have hmc : m ≤ cap := by omega
     have hwr : IntKind.i64.wrap ((len : Int) - 1) = (m : Int) := by simp [IntKind.wrap, IntKind.bits, IntKind.signed]; omega
     clear ht hlen hmm
     have hd1 : decide ((2 : Int) ≤ (len : Int)) = true := by simp; omega
     have hd2 : decide ((len : Int) ≤ 128) = true := by simp; omega
     go_enter Tryz.func81, Tryz.ntmps81
     go_wp2
     go_quiet ((first | (go_at_call 121; refine Calls.quiet_of_same (bytes_spec _ _ _ l _ HL.out HM.out)) | (go_at_call 80; refine Calls.quiet_of_same (checkOf_spec _ _ _ (l.take m) _ HT.out HTM.out))))
     go_wp2
     go_ret
     exact ⟨ret_bool HE.out.symm, _, rfl⟩
   ·have hall' : l.all bok = false := by simpa using hall
    have HE : Hid (romOk l = false) := romOk_wrong hall'
    have hd1 : decide ((2 : Int) ≤ (len : Int)) = true := by simp; omega
    have hd2 : decide ((len : Int) ≤ 128) = true := by simp; omega
    clear hall
    go_enter Tryz.func81, Tryz.ntmps81
    go_wp2
    go_quiet ((go_at_call 121; refine Calls.quiet_of_same (bytes_spec _ _ _ l _ HL.out HM.out)))
    go_wp2
    go_ret
    exact ⟨ret_bool HE.out.symm, _, rfl⟩
  ·have HE : Hid (romOk l = false) := romOk_long (by omega)
   have hd1 : decide ((2 : Int) ≤ (len : Int)) = true := by simp; omega
   have hd2 : decide ((len : Int) ≤ 128) = false := by simp; omega
   go_enter Tryz.func81, Tryz.ntmps81
   go_wp2
   go_quiet (fail)
   go_wp2
   go_ret
   exact ⟨ret_bool HE.out.symm, _, rfl⟩
 ·have HE : Hid (romOk l = false) := romOk_short (by omega)
  have hd1 : decide ((2 : Int) ≤ (len : Int)) = false := by simp; omega
  go_enter Tryz.func81, Tryz.ntmps81
  go_wp2
  go_quiet (fail)
  go_wp2
  go_ret
  exact ⟨ret_bool HE.out.symm, _, rfl⟩

set_option maxHeartbeats 1000000 in
theorem romOk_impl (a : Option Addr) (len cap : Nat) (l : List Int) (w : World) (hl : IntsAt w a len l) (hm : len ≤ cap) (hcm : cap ≤ maxLen) :
  Calls Tryz.prog 73 #[.slice a len cap] w fun e w' => e = .returned (.bool (romOk l)) ∧ ∃ n, w' = w.drewN n := by
 have HL : Hid (IntsAt w a len l) := hl
 unfold maxLen at hcm
 obtain ⟨hlen, hc⟩ := hl
 by_cases h2 : len < 2
 ·have HE : Hid (romOk l = false) := romOk_short (by omega)
  go_enter Tryz.func73, Tryz.ntmps73
  go_wp2
  go_ret
  exact ⟨ret_bool HE.out.symm, 0, rfl⟩
 ·by_cases h128 : 128 < len
  ·have HE : Hid (romOk l = false) := romOk_long (by omega)
   go_enter Tryz.func73, Tryz.ntmps73
   go_wp2
   go_ret
   exact ⟨ret_bool HE.out.symm, 0, rfl⟩
  ·rcases hc with h0 | ⟨b, off, rfl, hb, hcell⟩
   ·omega
   ·obtain ⟨m, hmm⟩ : ∃ m, m = len - 1 := ⟨_, rfl⟩
    have hz := hcell m (by omega)
    clear hcell
    obtain ⟨z, hzz⟩ : ∃ z, z = l.getD m 0 := ⟨_, rfl⟩
    rw [← hzz] at hz
    have HZ : Hid (z = l.getD m 0) := hzz
    have HE0 : bok z = false → romOk l = false := by rw [hzz, hmm, ← hlen]; exact romOk_last (by omega)
    have HE1 : bok z = true → romOk l = (z == chk (l.take m)) := by rw [hzz, hmm, ← hlen]; exact romOk_last_ok (by omega) (by omega)
    clear hzz
    have ht : IntsAt w (some ⟨b, off, none⟩) m (l.take m) := HL.out.take _ (by omega)
    have HT : Hid (IntsAt w (some ⟨b, off, none⟩) m (l.take m)) := ht
    have HTM : Hid (m ≤ maxLen) := by show m ≤ maxLen; unfold maxLen; omega
    have hml : m < len := by omega
    have hmi : (m : Int) < (len : Int) := by omega
    have hmc : m ≤ cap := by omega
    have hwr : (len : Int) - 1 = (m : Int) := by omega
    clear ht hlen hmm
    by_cases hbz : bok z = true
    ·have HE : Hid (romOk l = (z == chk (l.take m))) := HE1 hbz
     clear HE0 HE1
     have hB : ∀ W, Calls Tryz.prog 75 #[.int .i64 z] W fun e w' => e = .returned (.bool true) ∧ w' = W := fun W => by have := byteOk_impl z W; rw [hbz] at this; exact this
     go_enter Tryz.func73, Tryz.ntmps73
     go_wp2
     go_quiet ((first | (go_at_call 75; refine Calls.quiet_of_same (hB _)) | (go_at_call 139; refine Calls.quiet_of_same (checkOf_impl _ _ _ (l.take m) _ HT.out HTM.out))))
     go_wp2
     go_ret
     exact ⟨ret_bool HE.out.symm, _, rfl⟩
    ·have hbz' : bok z = false := by simpa using hbz
     have HE : Hid (romOk l = false) := HE0 hbz'
     clear HE0 HE1 hbz
     have hB : ∀ W, Calls Tryz.prog 75 #[.int .i64 z] W fun e w' => e = .returned (.bool false) ∧ w' = W := fun W => by have := byteOk_impl z W; rw [hbz'] at this; exact this
     go_enter Tryz.func73, Tryz.ntmps73
     go_wp2
     go_quiet ((go_at_call 75; refine Calls.quiet_of_same (hB _)))
     go_wp2
     go_ret
     exact ⟨ret_bool HE.out.symm, _, rfl⟩
theorem romOk_specS (v : Value) (l : List Int) (w : World) (h : Sl w v l) :
  Calls Tryz.prog 81 #[v] w fun e w' => e = .returned (.bool (romOk l)) ∧ ∃ n, w' = w.drewN n := by
 obtain ⟨a, cap, rfl, h1, h2, h3, h4⟩ := h
 exact romOk_spec _ _ _ l _ h1 h2 h3
theorem romOk_implS (v : Value) (l : List Int) (w : World) (h : Sl w v l) :
  Calls Tryz.prog 73 #[v] w fun e w' => e = .returned (.bool (romOk l)) ∧ ∃ n, w' = w.drewN n := by
 obtain ⟨a, cap, rfl, h1, h2, h3, h4⟩ := h
 exact romOk_impl _ _ _ l _ h1 h2 h3
end Go.Proofs.YtghmkacamabndaaGreatDoor.Rom
namespace Go.Proofs.YtghmkacamabndaaGreatDoor.RomOf
open Go.ChangeShapes Go.WideShapes Go.RowKit Base Slc Num Rom

theorem copy_spec (v : Value) (l : List Int) (w : World) (h : Sl w v l) (hb : l.length ≤ 17592186044415) :
  Calls Tryz.prog 79 #[v] w fun e w' => ∃ v', e = .returned v' ∧ Own w.heap.size w' v' l ∧ Below w.heap.size w w' := by
 have HO := own_lit w.heap.size w #[] [] rfl (by decide) (Nat.le_refl _)
 have HS := h.below ((Below.refl _ _).alloc (Nat.le_refl _) (.cells #[] 2))
 have HB : Below w.heap.size w (w.alloc (.cells #[] 2)) := (Below.refl _ _).alloc (Nat.le_refl _) _
 go_enter Tryz.func79, Tryz.ntmps79
 go_wp2_with (at_builtin; refine app rfl (.tmp 3) (.tmp 4) rfl w.heap.size [] l HO HS (by simp; omega) (by simp) ?_; intro v' w' ho hg)
 go_ret
 exact ⟨v', rfl, by simpa using ho, HB.grown hg (by simp) (fun k hk => (HO.lt k hk).1)⟩

theorem clone_any (v : Value) (l : List Int) (w : World) (h : Sl w v l) (hb : l.length ≤ 17592186044415) :
  Calls Tryz.prog 146 #[v] w fun e w' => ∃ v', e = .returned v' ∧ Own w.heap.size w' v' l ∧ Below w.heap.size w w' := by
 have HO := own_lit w.heap.size w #[] [] rfl (by decide) (Nat.le_refl _)
 have HS := h.below ((Below.refl _ _).alloc (Nat.le_refl _) (.cells #[] 2))
 have HB : Below w.heap.size w (w.alloc (.cells #[] 2)) := (Below.refl _ _).alloc (Nat.le_refl _) _
 have q : ∀ (w : World) (a : Option Addr) (n c n' c' : Nat), (binOp .eql 24 (.slice a n c) (.slice none n' c')).run Tryz.prog w = .ok (.bool a.isNone) w := fun w a n c n' c' => Lib.run_eql_slice_nil w _ _ a n c n' c' und64
 obtain ⟨a, cap, rfl, hat, hlc, hcm, hnil⟩ := h
 cases a with
 | none =>
  obtain ⟨h0, rfl⟩ := hnil rfl
  have : l = [] := List.eq_nil_of_length_eq_zero h0
  subst this
  go_enter Tryz.func146, Tryz.ntmps146
  go_wp2
  go_ret
  exact ⟨_, rfl, Own.nil _ _, Below.refl _ _⟩
 | some x =>
  go_enter Tryz.func146, Tryz.ntmps146
  go_wp2_with (at_builtin; refine app rfl (.tmp 5) (.tmp 6) rfl w.heap.size [] l HO HS (by simp; omega) (by simp) ?_; intro v' w' ho hg)
  go_ret
  exact ⟨v', rfl, by simpa using ho, HB.grown hg (by simp) (fun k hk => (HO.lt k hk).1)⟩

end Go.Proofs.YtghmkacamabndaaGreatDoor.RomOf
