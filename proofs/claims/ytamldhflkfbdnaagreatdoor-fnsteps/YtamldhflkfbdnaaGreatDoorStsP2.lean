/-
  What FnSteps leans on: part 2.
-/
import Derived.Test.YtamldhflkfbdnaaGreatDoorRows
import Derived.MapKept
import Derived.OwnWalk
import Derived.Deep.QuietTactic
import Derived.BigQuiet
import Derived.Test.YtamldhflkfbdnaaGreatDoorStsP1
set_option linter.unusedVariables false
set_option linter.unusedSimpArgs false
set_option maxRecDepth 20000
namespace Go.Proofs.YtamldhflkfbdnaaGreatDoor.Reg
open Go.RowKit Base

def at_ (a : Act) (k : Nat) : Value := a.tmps.getD k undef
structure InvG (ops : Array Oper) (G : World → Prop) (T : Nat → (Nat → Value) → World → Prop) (a0 : Act) (L : Nat → Bool) (a : Act) (w : World) : Prop where
 g : G w
 defers : a.defers = a0.defers
 size : a.tmps.size = a0.tmps.size
 told : ∀ j o, ops[j]? = some o → L j = true → T j (at_ a) w
 rest : ∀ k, (∀ j, L j = true → (ops[j]?).bind (·.dst) ≠ some k) → a.tmps.getD k undef = a0.tmps.getD k undef
 closed : ∀ j o d, ops[j]? = some o → L j = true → d ∈ deps o → L d = true
def Mono (ops : Array Oper) (T : Nat → (Nat → Value) → World → Prop) (R : Nat → World → World → Prop) : Prop :=
 ∀ (L : Nat → Bool) (i j : Nat) (oi oj : Oper) (f f' : Nat → Value) (w w' : World), ops[i]? = some oi → ops[j]? = some oj → L i = false → L j = true → (∀ d ∈ deps oj, L d = true) →
  (∀ k, oi.dst ≠ some k → f' k = f k) → T j f w → R i w w' → T j f' w'

section
variable {P : Program} {ops : Array Oper} {Q : Exit → Act → World → Prop} {G : World → Prop} {T : Nat → (Nat → Value) → World → Prop} {R : Nat → World → World → Prop} {a0 a : Act} {L : Nat → Bool} {w w' : World} {i : Nat} {o : Oper} {v : Value}
theorem InvG.next (h : InvG ops G T a0 L a w) (mono : Mono ops T R) (ho : ops[i]? = some o) (hL : L i = false)
  (hr : ∀ d ∈ deps o, L d = true) (hT : T i (at_ (a.put o.dst v)) w') (hG : G w') (hR : R i w w') : InvG ops G T a0 (fun j => L j || j == i) (a.put o.dst v) w' where
 g := hG
 defers := (put_defers _ _ _).trans h.defers
 size := (zFf _ _ _).trans h.size
 told := fun j oj hj hl => by
  by_cases hji : j = i
  ·subst hji; exact hT
  ·have hl' : L j = true := by simpa [hji] using hl
   exact mono L i j o oj (at_ a) _ w w' ho hj hL hl' (fun d hd => h.closed j oj d hj hl' hd) (fun k hk => jA _ _ _ _ hk) (h.told j oj hj hl') hR
 rest := fun k hk => by
  have hne : o.dst ≠ some k := fun e => hk i (by simp) (by rw [ho]; exact e)
  rw [jA _ _ _ _ hne]
  exact h.rest k (fun j hj => hk j (by simp [hj]))
 closed := fun j o' d hj hl hd' => by
  by_cases e : j = i
  ·subst e
   rw [ho] at hj; cases hj
   simp [hr d hd']
  ·have hl' : L j = true := by simpa [e] using hl
   simp [h.closed j o' d hj hl' hd']
theorem zUp (hac : acyc ops = true) (mono : Mono ops T R)
  (step : ∀ (L : Nat → Bool) (i : Nat) (o : Oper) (a : Act) (w : World), ops[i]? = some o → InvG ops G T a0 L a w → L i = false → (∀ d ∈ deps o, L d = true) →
   wpOp P ops Q i (fun a' w' => ∃ v, a' = a.put o.dst v ∧ T i (at_ (a.put o.dst v)) w' ∧ G w' ∧ R i w w') a w)
  (done : ∀ a w, InvG ops G T a0 (fun _ => true) a w → Q .normal a w) :
  ∀ (fuel : Nat) (listed : Array Bool) (a : Act) (w : World), listed.size = ops.size → left ops.size listed ≤ fuel → InvG ops G T a0 (fun j => listed.getD j false) a w → wpAny P .any ops Q fuel listed a w := by
 have fin : ∀ (listed : Array Bool) (a : Act) (w : World), listed.size = ops.size → Region.ready .any ops listed = [] → InvG ops G T a0 (fun j => listed.getD j false) a w → Q .normal a w := fun listed a w hs hr hI => by
  refine done a w ?_
  have hall := zCm hac hr hs
  have hL : ∀ j o, ops[j]? = some o → listed.getD j false = true := fun j o hj => by
   have hjs : j < ops.size := by
    by_cases hl : j < ops.size
    ·exact hl
    ·have e : ops[j]? = none := by simp; omega
     rw [e] at hj; cases hj
   have := hall j hjs
   have hjl : j < listed.size := by omega
   simpa [Array.getD_eq_getD_getElem?, Array.getElem?_eq_getElem hjl] using this
  exact ⟨hI.g, hI.defers, hI.size, fun j o hj _ => hI.told j o hj (hL j o hj), fun k hk => hI.rest k (fun j hj => hk j rfl), fun _ _ _ _ _ _ => rfl⟩
 intro fuel
 induction fuel with
 | zero =>
  intro listed a w hs hf hI
  have hr : Region.ready .any ops listed = [] := by
   refine List.eq_nil_iff_forall_not_mem.2 fun i hi => ?_
   obtain ⟨h1, h2, _⟩ := mem_ready.1 hi
   have h0 : left ops.size listed = 0 := by omega
   have := (List.countP_eq_zero.1 h0) i (List.mem_range.2 h1)
   simp [h2] at this
  exact ⟨hr, fin listed a w hs hr hI⟩
 | succ fuel ih =>
  intro listed a w hs hf hI
  refine ⟨fun hr => fin listed a w hs hr hI, fun i hi => ?_⟩
  obtain ⟨h1, h2, o, ho, h3⟩ := mem_ready.1 hi
  have hil : i < listed.size := by omega
  have hLi : listed.getD i false = false := by
   simpa [Array.getD_eq_getD_getElem?, Array.getElem?_eq_getElem hil] using h2
  refine wpOp_mono ?_ (step (fun j => listed.getD j false) i o a w ho hI hLi h3)
  rintro a' w' ⟨v, rfl, hT, hG, hR⟩
  refine ih _ _ _ (by simpa using hs) ?_ ?_
  ·have hlt : left ops.size (listed.setIfInBounds i true) < left ops.size listed := by
    refine zC7 (x := i) (fun x hx => ?_) (List.mem_range.2 h1) (by simp [h2]) ?_
    ·by_cases hxi : x = i
     ·subst hxi; simp [h2]
     ·simpa [Array.getD_eq_getD_getElem?, Array.getElem?_setIfInBounds, Ne.symm hxi] using hx
    ·simp [Array.getD_eq_getD_getElem?, hil]
   omega
  ·have hI' := hI.next mono ho hLi h3 hT hG hR
   have e : (fun j => (listed.setIfInBounds i true).getD j false) = fun j => listed.getD j false || j == i := by
    funext j
    by_cases hj : j = i
    ·subst hj; simp [Array.getD_eq_getD_getElem?, hil]
    ·simp [Array.getD_eq_getD_getElem?, Ne.symm hj, hj]
   rw [e]
   exact hI'
theorem zHv {id : Nat} (hm : P.follows .mixedOrders = true) (hac : acyc ops = true) (G : World → Prop) (T : Nat → (Nat → Value) → World → Prop) (R : Nat → World → World → Prop)
  (mono : Mono ops T R) (hG : G w.drew)
  (step : ∀ (L : Nat → Bool) (i : Nat) (o : Oper) (a : Act) (w : World), ops[i]? = some o → InvG ops G T a0 L a w → L i = false → (∀ d ∈ deps o, L d = true) →
   wpOp P ops Q i (fun a' w' => ∃ v, a' = a.put o.dst v ∧ T i (at_ (a.put o.dst v)) w' ∧ G w' ∧ R i w w') a w)
  (done : ∀ a w, InvG ops G T a0 (fun _ => true) a w → Q .normal a w) : (Code.region id ops true).wp P Q a0 w := by
 have no : ∀ j, (Array.replicate ops.size false).getD j false = true → False := fun j hl => by
  by_cases hj : j < ops.size
  ·simp [Array.getD_eq_getD_getElem?, hj] at hl
  ·simp [Array.getD_eq_getD_getElem?, hj] at hl
 exact wp_region_any hm (zUp hac mono step done ops.size _ a0 w.drew (by simp) (by
  refine Nat.le_trans List.countP_le_length ?_
  simp) ⟨hG, rfl, rfl, fun j o _ hl => (no j hl).elim, fun _ _ => rfl, fun j o d _ hl _ => (no j hl).elim⟩)
theorem InvG.get (h : InvG ops G T a0 L a w) (hr : ∀ d ∈ deps o, L d = true) (j : Nat) {oj : Oper} (hj : ops[j]? = some oj) (hd : (deps o).contains j = true) : T j (at_ a) w :=
 h.told j oj hj (hr j (by simpa using hd))
theorem InvG.old (h : InvG ops G T a0 L a w) (k : Nat) (hk : (ops.all fun o => o.dst != some k) = true) : a.tmps.getD k undef = a0.tmps.getD k undef :=
 h.rest k fun j _ e => by
  cases hj : ops[j]? with
  | none => simp [hj] at e
  | some o =>
   have h1 := (Array.all_eq_true_iff_forall_mem.1 hk) o (Array.mem_of_getElem? hj)
   simp [hj] at e
   simp [e] at h1
end
theorem InvG.ol {ops : Array Oper} {G : World → Prop} {T : Nat → (Nat → Value) → World → Prop} {a0 a : Act} {L : Nat → Bool} {w : World} (h : InvG ops G T a0 L a w) (k : Nat) {v : Value} (hv : free ops a0.tmps k = some v) : a.eval (.tmp k) = v := (h.old k (zBl hv).1).trans (zBl hv).2
end Go.Proofs.YtamldhflkfbdnaaGreatDoor.Reg
namespace Go.Proofs.YtamldhflkfbdnaaGreatDoor.Mp
open Go.RowKit Base

def mget : List (Int × Int) → Int → Option Int
 | [], _ => none
 | (k, v) :: r, q => if q = k then some v else mget r q
def mput : List (Int × Int) → Int → Int → List (Int × Int)
 | [], q, n => [(q, n)]
 | (k, v) :: r, q, n => if q = k then (k, n) :: r else (k, v) :: mput r q n
def mdel : List (Int × Int) → Int → List (Int × Int)
 | [], _ => []
 | (k, v) :: r, q => if q = k then r else (k, v) :: mdel r q
theorem jF : ∀ (L : List (Int × Int)) (q n x : Int), mget (mput L q n) x = if x = q then some n else mget L x
 | [], q, n, x => by simp [mput, mget]
 | (k, v) :: r, q, n, x => by
  by_cases h : q = k
  ·subst h
   by_cases hx : x = q <;> simp [mput, mget, hx]
  ·by_cases hx : x = k
   ·have : ¬ x = q := by omega
    simp [mput, mget, h, hx]
    omega
   ·simp [mput, mget, h, hx, jF r q n x]
def zBs : List (Int × Int) → Int → Nat → Option (Nat × Int)
 | [], _, _ => none
 | (k, v) :: r, q, i => if q = k then some (i, v) else zBs r q (i + 1)
def Ents (es : List MapEntry) (L : List (Int × Int)) : Prop := es.map (fun e => (e.key, e.val)) = L.map (fun x => (Value.int .i64 x.1, Value.int .i64 x.2))
theorem Ents.cons {e : MapEntry} {es : List MapEntry} {x : Int × Int} {L : List (Int × Int)} (h : Ents (e :: es) (x :: L)) : e.key = .int .i64 x.1 ∧ e.val = .int .i64 x.2 ∧ Ents es L := by
 simp only [Ents, List.map_cons, List.cons.injEq, Prod.mk.injEq] at h
 exact ⟨h.1.1, h.1.2, h.2⟩
theorem zLu : ∀ (es : List MapEntry) (L : List (Int × Int)) (q : Int) (i : Nat), Ents es L →
  Instr.findNow (.int .i64) (.int .i64 q) es i = some ((zBs L q i).map fun x => (x.1, Value.int .i64 x.2))
 | [], [], q, i, h => rfl
 | [], _ :: _, q, i, h => by simp [Ents] at h
 | _ :: _, [], q, i, h => by simp [Ents] at h
 | e :: es, (k, v) :: L, q, i, h => by
  obtain ⟨h1, h2, h3⟩ := h.cons
  unfold Instr.findNow
  rw [h1]
  by_cases hq : q = k
  ·subst hq
   simp [Instr.sameNow, zBs, h2]
  ·have hf : (q == k) = false := by simpa using hq
   simp [Instr.sameNow, zBs, hq, hf, zLu es L q (i + 1) h3]
theorem zMp : ∀ (L : List (Int × Int)) (q : Int) (i : Nat), (zBs L q i).map (·.2) = mget L q
 | [], q, i => rfl
 | (k, v) :: L, q, i => by
  by_cases hq : q = k <;> simp [zBs, mget, hq, zMp L q (i + 1)]
theorem zGf : ∀ (L : List (Int × Int)) (q : Int) (i : Nat), zBs L q i = none → (∀ n, mput L q n = L ++ [(q, n)]) ∧ mdel L q = L
 | [], q, i, _ => ⟨fun _ => rfl, rfl⟩
 | (k, v) :: L, q, i, h => by
  by_cases hq : q = k
  ·simp [zBs, hq] at h
  ·simp only [zBs, hq, if_false] at h
   have := zGf L q (i + 1) h
   simp [mput, mdel, hq, this]
theorem zGe : ∀ (L : List (Int × Int)) (q : Int) (i j : Nat) (v : Int), zBs L q i = some (j, v) →
  ∃ d, j = i + d ∧ L[d]? = some (q, v) ∧ (∀ n, mput L q n = L.modify d (fun _ => (q, n))) ∧ mdel L q = L.eraseIdx d
 | [], q, i, j, v, h => by simp [zBs] at h
 | (k, u) :: L, q, i, j, v, h => by
  by_cases hq : q = k
  ·subst hq
   simp only [zBs, if_true, Option.some.injEq, Prod.mk.injEq] at h
   obtain ⟨rfl, rfl⟩ := h
   exact ⟨0, rfl, rfl, fun n => by simp [mput], by simp [mdel]⟩
  ·simp only [zBs, hq, if_false] at h
   obtain ⟨d, rfl, h1, h2, h3⟩ := zGe L q (i + 1) j v h
   exact ⟨d + 1, by omega, by simpa using h1, fun n => by simp [mput, hq, h2], by simp [mdel, hq, h3]⟩
theorem Ents.at {es : List MapEntry} {L : List (Int × Int)} (h : Ents es L) {d : Nat} {x : Int × Int} (hx : L[d]? = some x) : ∃ e, es[d]? = some e ∧ e.key = .int .i64 x.1 := by
 have := congrArg (fun l => l[d]?) h
 simp only [List.getElem?_map, hx, Option.map_some] at this
 cases he : es[d]? with
 | none => simp [he] at this
 | some e =>
  simp only [he, Option.map_some, Option.some.injEq, Prod.mk.injEq] at this
  exact ⟨e, rfl, this.1⟩

def MapAt (w : World) (b : Nat) (L : List (Int × Int)) : Prop := ∃ es clock, w.heap[b]? = some (.map es clock) ∧ Ents es.toList L
theorem MapAt.lt {w : World} {b : Nat} {L : List (Int × Int)} (h : MapAt w b L) : b < w.heap.size := by
 obtain ⟨es, c, h, _⟩ := h
 exact (Array.getElem?_eq_some_iff.1 h).1
theorem MapAt.keep {w w' : World} {b : Nat} {L : List (Int × Int)} (h : MapAt w b L) (hk : w'.heap[b]? = w.heap[b]?) : MapAt w' b L := by
 obtain ⟨es, c, h, h2⟩ := h
 exact ⟨es, c, hk.trans h, h2⟩
theorem MapAt.below {w w' : World} {b : Nat} {L : List (Int × Int)} (h : MapAt w b L) (hb : Below w.heap.size w w') : MapAt w' b L := h.keep (hb.block b h.lt)
theorem MapAt.drewN {w : World} {b : Nat} {L : List (Int × Int)} (h : MapAt w b L) (n : Nat) : MapAt (w.drewN n) b L := h.keep rfl
theorem MapAt.onto {w w' : World} {b p : Nat} {L : List (Int × Int)} (h : MapAt w b L) (ho : Onto p w w') (hp : b ≠ p) : MapAt w' b L := h.keep (ho.block b hp h.lt)
theorem MapAt.new (w : World) : MapAt (w.alloc (.map #[] 0)) w.heap.size [] := ⟨#[], 0, heap_alloc_new _ _, rfl⟩
def setB (w : World) (b : Nat) (o : Obj) : World := { w with heap := w.heap.setIfInBounds b o }
theorem zEj (w : World) (b : Nat) (o : Obj) : Onto b w (setB w b o) :=
 ⟨rfl, rfl, rfl, by simp [setB], fun k hk _ => by simp [setB, Array.getElem?_setIfInBounds]; intro e; omega⟩
theorem zEc (w : World) (b : Nat) (o : Obj) : (setB w b o).heap.size = w.heap.size := by simp [setB]
theorem zHb {w : World} {b : Nat} (o : Obj) (hb : b < w.heap.size) : (setB w b o).heap[b]? = some o := by simp [setB, hb]
section
variable {P : Program} {w : World} {b : Nat} {L : List (Int × Int)} {t k e : TypeId}
theorem zCr {x : TypeId} {d : TypeDesc} (h : P.underlying x = some d) : (underlying x).run P w = .ok d w := by
 simp [underlying, h]
theorem zB8 (hk : P.underlying k = some (.int .i64)) (q : Int) (em : Bool) : (Instr.checkKey em 10000 k (.int .i64 q)).run P w = .ok () w := by
 unfold Instr.checkKey
 simp [zCr hk]
theorem zHr (hk : P.underlying k = some (.int .i64)) {es : List MapEntry} (h : Ents es L) (q : Int) : (Instr.findKey k (.int .i64 q) es).run P w = .ok ((zBs L q 0).map fun x => (x.1, Value.int .i64 x.2)) w := by
 simp [Instr.findKey, zCr hk, zLu es L q 0 h]
theorem zN9 (ht : P.underlying t = some (.map k e)) (hk : P.underlying k = some (.int .i64)) (hz : (zeroValue e).run P w = .ok (.int .i64 0) w) (h : MapAt w b L) (q : Int) :
  (Instr.lookup t (.map (some b)) (.int .i64 q) false).run P w = .ok (.int .i64 ((mget L q).getD 0)) w ∧
  (Instr.lookup t (.map (some b)) (.int .i64 q) true).run P w = .ok (.tuple #[.int .i64 ((mget L q).getD 0), .bool (mget L q).isSome]) w := by
 obtain ⟨es, c, hb, hE⟩ := h
 rw [← zMp L q 0]
 have hf := zHr (w := w) hk hE q
 cases hm : zBs L q 0 with
 | none =>
  rw [hm] at hf
  constructor <;> simp [Instr.lookup, zCr ht, MapKept.run_getObj_map hb, zB8 hk, hf, hz, Result.andThen]
 | some x =>
  rw [hm] at hf
  constructor <;> simp [Instr.lookup, zCr ht, MapKept.run_getObj_map hb, zB8 hk, hf, Result.andThen]
theorem stays (q : Int) : (Instr.keyThatStays (.int .i64 q) (.int .i64 q)).run P w = .ok (.int .i64 q) w := by
 simp [Instr.keyThatStays, Instr.sameBits]
theorem zN8 (ht : P.underlying t = some (.map k e)) (hk : P.underlying k = some (.int .i64)) (h : MapAt w b L) (q n : Int) :
  ∃ w', (Instr.mapUpdate t (.map (some b)) (.int .i64 q) (.int .i64 n)).run P w = .ok () w' ∧ MapAt w' b (mput L q n) ∧ Onto b w w' ∧ w'.heap.size = w.heap.size := by
 have hlt := h.lt
 obtain ⟨es, c, hb, hE⟩ := h
 have hf := zHr (w := w) hk hE q
 cases hm : zBs L q 0 with
 | none =>
  rw [hm] at hf
  refine ⟨setB w b (.map (es.push { key := .int .i64 q, val := .int .i64 n, born := c }) (c + 1)), ?_, ⟨_, _, zHb _ hlt, ?_⟩, zEj _ _ _, zEc _ _ _⟩
  ·simp [Instr.mapUpdate, zCr ht, MapKept.run_getObj_map hb, zB8 hk, hf, MapKept.run_setObj_map _ hb, Result.andThen, setB]
  ·rw [(zGf L q 0 hm).1]
   unfold Ents at hE ⊢
   simp [hE]
 | some x =>
  obtain ⟨j, v⟩ := x
  rw [hm] at hf
  obtain ⟨d, hj, h1, h2, _⟩ := zGe L q 0 j v hm
  obtain rfl : j = d := by omega
  obtain ⟨ent, he, hek⟩ := hE.at h1
  have he' : es[j]? = some ent := by rw [← Array.getElem?_toList]; exact he
  refine ⟨setB w b (.map (es.modify j fun y => { y with key := .int .i64 q, val := .int .i64 n }) c), ?_, ⟨_, _, zHb _ hlt, ?_⟩, zEj _ _ _, zEc _ _ _⟩
  ·have hs := stays (P := P) (w := w) q
   simp only at hek
   simp [Instr.mapUpdate, zCr ht, MapKept.run_getObj_map hb, zB8 hk, hf, he', hek, hs, MapKept.run_setObj_map _ hb, Result.andThen, setB]
  ·rw [h2]
   unfold Ents at hE ⊢
   rw [Array.toList_modify]
   refine List.ext_getElem? fun i => ?_
   have hi := congrArg (fun l => l[i]?) hE
   simp only [List.getElem?_map, List.getElem?_modify] at hi ⊢
   by_cases hji : j = i
   ·subst hji
    simp [he, h1]
   ·simpa [hji] using hi
theorem zTs {ty : TypeId} (ht : P.underlying t = some (.map k e)) (hk : P.underlying k = some (.int .i64)) (h : MapAt w b L) (q : Int) :
  ∃ w', (Builtin.delete_ #[t, k] ty #[.map (some b), .int .i64 q]).run P w = .ok (.tuple #[]) w' ∧ MapAt w' b (mdel L q) ∧ Onto b w w' ∧ w'.heap.size = w.heap.size := by
 have hlt := h.lt
 obtain ⟨es, c, hb, hE⟩ := h
 have hf := zHr (w := w) hk hE q
 cases hm : zBs L q 0 with
 | none =>
  rw [hm] at hf
  refine ⟨setB w b (.map es c), ?_, ⟨_, _, zHb _ hlt, ?_⟩, zEj _ _ _, zEc _ _ _⟩
  ·simp [Builtin.delete_, zCr ht, MapKept.run_getObj_map hb, zB8 hk, hf, MapKept.run_setObj_map _ hb, Result.andThen, setB]
  ·rw [(zGf L q 0 hm).2]; exact hE
 | some x =>
  obtain ⟨j, v⟩ := x
  rw [hm] at hf
  obtain ⟨d, hj, h1, _, h3⟩ := zGe L q 0 j v hm
  obtain rfl : j = d := by omega
  obtain ⟨ent, he, hek⟩ := hE.at h1
  have hjl : j < es.size := by
   have := (List.getElem?_eq_some_iff.1 he).1
   simpa using this
  refine ⟨setB w b (.map (es.eraseIdxIfInBounds j) c), ?_, ⟨_, _, zHb _ hlt, ?_⟩, zEj _ _ _, zEc _ _ _⟩
  ·simp [Builtin.delete_, zCr ht, MapKept.run_getObj_map hb, zB8 hk, hf, MapKept.run_setObj_map _ hb, Result.andThen, setB]
  ·rw [h3]
   unfold Ents at hE ⊢
   unfold Array.eraseIdxIfInBounds
   rw [dif_pos hjl]
   simp only [Array.toList_eraseIdx]
   refine List.ext_getElem? fun i => ?_
   have hi := fun i : Nat => congrArg (fun l => l[i]?) hE
   simp only [List.getElem?_map] at hi
   simp only [List.getElem?_map, List.getElem?_eraseIdx]
   split <;> exact hi _
end
end Go.Proofs.YtamldhflkfbdnaaGreatDoor.Mp
namespace Go.Proofs.YtamldhflkfbdnaaGreatDoor.Reg
open Go.RowKit Base Mp Rw

def zQm (ops : Array Oper) (S : List (List Nat)) : Bool := (List.range ops.size).all fun j => (S.getD j []).all fun s => (List.range ops.size).all fun i =>
 (ops[i]?).bind (·.dst) != some s || i == j || (match ops[j]? with | some o => (deps o).contains i | none => true)
section
variable {ops : Array Oper} {T : Nat → (Nat → Value) → World → Prop} {R : Nat → World → World → Prop} {S : List (List Nat)}
theorem zLv (hS : zQm ops S = true) (hK : ∀ j f f' w, (∀ s ∈ S.getD j [], f' s = f s) → T j f w → T j f' w) (hR : ∀ i j f w w', i ≠ j → T j f w → R i w w' → T j f w') : Mono ops T R := by
 intro L i j oi oj f f' w w' hi hj hLi hLj hdep hf hT hRi
 have hne : i ≠ j := fun e => by rw [e, hLj] at hLi; cases hLi
 have hil : i < ops.size := by
  by_cases hl : i < ops.size
  ·exact hl
  ·have e : ops[i]? = none := by simp; omega
   rw [e] at hi; cases hi
 have hjl : j < ops.size := by
  by_cases hl : j < ops.size
  ·exact hl
  ·have e : ops[j]? = none := by simp; omega
   rw [e] at hj; cases hj
 refine hR i j f' w w' hne (hK j f f' w (fun s hs => hf s fun e => ?_) hT) hRi
 have h1 := List.all_eq_true.1 (List.all_eq_true.1 (List.all_eq_true.1 hS j (List.mem_range.2 hjl)) s hs) i (List.mem_range.2 hil)
 rw [hi, hj] at h1
 simp only [Option.bind_some, e, bne_self_eq_false, Bool.false_or, Bool.or_eq_true, beq_iff_eq] at h1
 rcases h1 with h1 | h1
 ·exact hne h1
 ·have := hdep i (List.contains_iff_mem.1 h1)
  rw [hLi] at this; cases this
end

structure Nice (L : List (Int × Int)) : Prop where
 one : (L.map Prod.fst).Nodup
 range : ∀ x v, mget L x = some v → 240 ≤ x ∧ x ≤ 248
theorem zJw : ∀ (L : List (Int × Int)) (q n x : Int), x ∈ (mput L q n).map Prod.fst ↔ x = q ∨ x ∈ L.map Prod.fst
 | [], q, n, x => by simp [mput]
 | (k, v) :: r, q, n, x => by
  by_cases h : q = k
  ·subst h; simp [mput]
  ·simp only [mput, h, if_false, List.map_cons, List.mem_cons, zJw r q n x]
   constructor
   ·rintro (h | h | h) <;> simp [h]
   ·rintro (h | h | h) <;> simp [h]
theorem zH3 : ∀ (L : List (Int × Int)) (q n : Int), (L.map Prod.fst).Nodup → ((mput L q n).map Prod.fst).Nodup
 | [], q, n, _ => by simp [mput]
 | (k, v) :: r, q, n, h => by
  by_cases hq : q = k
  ·subst hq; simpa [mput] using h
  ·simp only [List.map_cons, List.nodup_cons] at h
   simp only [mput, hq, if_false, List.map_cons, List.nodup_cons]
   refine ⟨fun hm => ?_, zH3 r q n h.2⟩
   rcases (zJw r q n k).1 hm with e | e
   ·exact hq e.symm
   ·exact h.1 e
theorem zJy : ∀ (L : List (Int × Int)) (x : Int), x ∉ L.map Prod.fst → mget L x = none
 | [], x, _ => rfl
 | (k, v) :: r, x, h => by
  simp only [List.map_cons, List.mem_cons, not_or] at h
  simp [mget, h.1, zJy r x h.2]
theorem zJz : ∀ (L : List (Int × Int)) (q x : Int), (L.map Prod.fst).Nodup → mget (mdel L q) x = if x = q then none else mget L x
 | [], q, x, _ => by simp [mdel, mget]
 | (k, v) :: r, q, x, h => by
  simp only [List.map_cons, List.nodup_cons] at h
  by_cases hq : q = k
  ·subst hq
   by_cases hx : x = q
   ·subst hx; simp [mdel, zJy r x h.1]
   ·simp [mdel, mget, hx]
  ·by_cases hx : x = k
   ·subst hx
    have : ¬ x = q := fun e => hq e.symm
    simp [mdel, mget, hq, this]
   ·simp [mdel, mget, hq, hx, zJz r q x h.2]
theorem Nice.nil : Nice [] := ⟨by simp, fun x v h => by simp [mget] at h⟩
theorem Nice.put {L : List (Int × Int)} (h : Nice L) {q : Int} (n : Int) (hq : 240 ≤ q ∧ q ≤ 248) : Nice (mput L q n) :=
 ⟨zH3 L q n h.one, fun x v hx => by
  rw [jF] at hx
  split at hx
  ·omega
  ·exact h.range x v hx⟩
theorem zMs : ∀ (L L' : List (Int × Int)), L.map (fun x => (Value.int .i64 x.1, Value.int .i64 x.2)) = L'.map (fun x => (Value.int .i64 x.1, Value.int .i64 x.2)) → L = L'
 | [], [], _ => rfl
 | [], _ :: _, h => by simp at h
 | _ :: _, [], h => by simp at h
 | (a, b) :: L, (a', b') :: L', h => by
  simp only [List.map_cons, List.cons.injEq, Prod.mk.injEq, Value.int.injEq, true_and] at h
  obtain ⟨⟨rfl, rfl⟩, h⟩ := h
  rw [zMs L L' h]
theorem vM {w : World} {b : Nat} {L L' : List (Int × Int)} (h : MapAt w b L) (h' : MapAt w b L') : L = L' := by
 obtain ⟨es, c, h1, h2⟩ := h
 obtain ⟨es', c', h1', h2'⟩ := h'
 rw [h1] at h1'
 simp only [Option.some.injEq, Obj.map.injEq] at h1'
 obtain ⟨rfl, rfl⟩ := h1'
 exact zMs _ _ (h2.symm.trans h2')

abbrev Tk : Type := (Nat × Value) ⊕ Unit ⊕ (Int × Int) ⊕ (Nat × Nat)
def Tk.val (k : Nat) (v : Value) : Tk := .inl (k, v)
def Tk.new : Tk := .inr (.inl ())
def Tk.ins (q x : Int) : Tk := .inr (.inr (.inl (q, x)))
def Tk.same (k k' : Nat) : Tk := .inr (.inr (.inr (k, k')))
def Tk.says (g : Nat) (f : Nat → Value) (w : World) : Tk → Prop
 | .inl (k, v) => f k = v
 | .inr (.inl _) => ∃ b L, f 3 = .map (some b) ∧ g < b ∧ MapAt w b L ∧ Nice L
 | .inr (.inr (.inl (q, x))) => ∃ b L, f 3 = .map (some b) ∧ MapAt w b L ∧ Nice L ∧ mget L q = some x
 | .inr (.inr (.inr (k, k'))) => f k = f k'
def Tk.sup : Tk → List Nat
 | .inl (k, _) => [k]
 | .inr (.inl _) => [3]
 | .inr (.inr (.inl _)) => [3]
 | .inr (.inr (.inr (k, k'))) => [k, k']
def Tk.key : Tk → Int
 | .inr (.inr (.inl (q, _))) => q
 | _ => -1
def told (g : Nat) (l : List Tk) (j : Nat) (f : Nat → Value) (w : World) : Prop := match l[j]? with
 | some t => t.says g f w
 | none => True
def Rq (q : Int) (w w' : World) : Prop := ∀ b L, MapAt w b L → Nice L → ∃ L', MapAt w' b L' ∧ Nice L' ∧ ∀ x, x ≠ q → mget L' x = mget L x
theorem Rq.below {q : Int} {w w' : World} (h : Below w.heap.size w w') : Rq q w w' := fun b L hm hn => ⟨L, hm.below h, hn, fun _ _ => rfl⟩
theorem Rq.refl (q : Int) (w : World) : Rq q w w := fun b L hm hn => ⟨L, hm, hn, fun _ _ => rfl⟩
theorem Rq.put {q n : Int} {w w' : World} {b : Nat} {L : List (Int × Int)} (hm : MapAt w b L) (hm' : MapAt w' b (mput L q n)) (ho : Onto b w w') (hq : 240 ≤ q ∧ q ≤ 248) : Rq q w w' := fun b' L' hb' hn' => by
 by_cases e : b' = b
 ·subst e
  obtain rfl := vM hm hb'
  exact ⟨_, hm', hn'.put n hq, fun x hx => by rw [jF, if_neg hx]⟩
 ·exact ⟨L', hb'.onto ho e, hn', fun _ _ => rfl⟩
def apart (l : List Int) : Bool := (List.range l.length).all fun i => (List.range l.length).all fun j => i == j || l.getD j (-1) == -1 || l.getD i (-1) != l.getD j (-1)
theorem zOs {ops : Array Oper} {g : Nat} {l : List Tk} {ks : List Int} (hks : l.map Tk.key = ks) (hap : apart ks = true) (hS : zQm ops (l.map Tk.sup) = true) (hpos : ∀ q x, Tk.ins q x ∈ l → 240 ≤ q) (hlen : l.length = ops.size) :
  Mono ops (told g l) (fun i => Rq (ks.getD i (-1))) := by
 refine zLv hS (fun j f f' w hf hT => ?_) (fun i j f w w' hij hT hR => ?_)
 ·unfold told at *
  cases e : l[j]? with
  | none => trivial
  | some t =>
   rw [e] at hT
   have hs : (l.map Tk.sup).getD j [] = t.sup := by simp [e]
   rw [hs] at hf
   rcases t with ⟨k, v⟩ | ⟨⟩ | ⟨q, x⟩ | ⟨k, k'⟩
   ·exact (hf k (by simp [Tk.sup])).trans hT
   ·obtain ⟨b, L, h1, h2⟩ := hT; exact ⟨b, L, (hf 3 (by simp [Tk.sup])).trans h1, h2⟩
   ·obtain ⟨b, L, h1, h2⟩ := hT; exact ⟨b, L, (hf 3 (by simp [Tk.sup])).trans h1, h2⟩
   ·exact ((hf k (by simp [Tk.sup])).trans hT).trans (hf k' (by simp [Tk.sup])).symm
 ·unfold told at *
  cases e : l[j]? with
  | none => trivial
  | some t =>
   rw [e] at hT
   rcases t with ⟨k, v⟩ | ⟨⟩ | ⟨q, x⟩ | ⟨k, k'⟩
   ·exact hT
   ·obtain ⟨b, L, h1, h2, h3, h4⟩ := hT
    obtain ⟨L', m', n', _⟩ := hR b L h3 h4
    exact ⟨b, L', h1, h2, m', n'⟩
   ·obtain ⟨b, L, h1, h3, h4, h5⟩ := hT
    obtain ⟨L', m', n', hx⟩ := hR b L h3 h4
    refine ⟨b, L', h1, m', n', ?_⟩
    rw [hx q, h5]
    have hj : ks.getD j (-1) = q := by rw [← hks]; simp [e, Tk.key]
    have hjl : j < ks.length := by
     rw [← hks, List.length_map]
     exact (List.getElem?_eq_some_iff.1 e).1
    have hq := hpos q x (List.mem_of_getElem? e)
    by_cases hil : i < ks.length
    ·have h1 := List.all_eq_true.1 (List.all_eq_true.1 hap i (List.mem_range.2 hil)) j (List.mem_range.2 hjl)
     simp only [Bool.or_eq_true, beq_iff_eq, bne_iff_ne, hj] at h1
     rcases h1 with (h1 | h1) | h1
     ·exact absurd h1 hij
     ·omega
     ·exact fun e => h1 e.symm
    ·have : ks.getD i (-1) = -1 := by simp [List.getD_eq_getElem?_getD, List.getElem?_eq_none (by omega : ks.length ≤ i)]
     rw [this]; omega
   ·exact hT
section
variable {P : Program} {Q : Exit → Act → World → Prop} {a : Act} {o : Oper} {w : World} {K : Act → World → Prop}
theorem zNk {t : TypeId} (ho : o.op = .makeMap t none) (h : K (a.put o.dst (.map (some w.heap.size))) (w.alloc (.map #[] 0))) : o.wp P a w K Q := by
 have e : (Instr.makeMap t none).run P w = .ok (.map (some w.heap.size)) (w.alloc (.map #[] 0)) := rfl
 unfold Oper.wp execOp
 simp only [ho, Option.map_none, Sem.run_bind, Result.andThen_ok, e]
 exact h
theorem zAi {t k e : TypeId} {m kx x : Operand} {b : Nat} {q n : Int} {L : List (Int × Int)} (ho : o.op = .insert t m kx x) (ht : P.underlying t = some (.map k e)) (hk : P.underlying k = some (.int .i64))
  (hm : a.eval m = .map (some b)) (hq : a.eval kx = .int .i64 q) (hx : a.eval x = .int .i64 n) (hM : MapAt w b L)
  (h : ∀ w', MapAt w' b (mput L q n) → Onto b w w' → K (a.put o.dst undef) w') : o.wp P a w K Q := by
 obtain ⟨w', hr, h1, h2, h3⟩ := zN8 (P := P) ht hk hM q n
 unfold Oper.wp execOp
 simp only [ho, hm, hq, hx, Sem.run_bind, Result.andThen_ok, hr]
 exact h _ h1 h2
end
end Go.Proofs.YtamldhflkfbdnaaGreatDoor.Reg
namespace Go.Proofs.YtamldhflkfbdnaaGreatDoor.Reg
open Go.RowKit Base

def zCn (ops : Array Oper) (T : Nat → (Nat → Value) → World → Prop) (R : Nat → (Nat → Value) → World → World → Prop) : Prop :=
 ∀ (L : Nat → Bool) (i j : Nat) (oi oj : Oper) (f f' : Nat → Value) (w w' : World), ops[i]? = some oi → ops[j]? = some oj → L i = false → L j = true → (∀ d ∈ deps oj, L d = true) →
  (∀ k, oi.dst ≠ some k → f' k = f k) → T j f w → R i f' w w' → T j f' w'

section
variable {P : Program} {ops : Array Oper} {Q : Exit → Act → World → Prop} {G : World → Prop} {T : Nat → (Nat → Value) → World → Prop} {R : Nat → (Nat → Value) → World → World → Prop} {a0 a : Act} {L : Nat → Bool} {w w' : World} {i : Nat} {o : Oper} {v : Value}
theorem InvG.nextF (h : InvG ops G T a0 L a w) (mono : zCn ops T R) (ho : ops[i]? = some o) (hL : L i = false)
  (hr : ∀ d ∈ deps o, L d = true) (hT : T i (at_ (a.put o.dst v)) w') (hG : G w') (hR : R i (at_ (a.put o.dst v)) w w') : InvG ops G T a0 (fun j => L j || j == i) (a.put o.dst v) w' where
 g := hG
 defers := (put_defers _ _ _).trans h.defers
 size := (zFf _ _ _).trans h.size
 told := fun j oj hj hl => by
  by_cases hji : j = i
  ·subst hji; exact hT
  ·have hl' : L j = true := by simpa [hji] using hl
   exact mono L i j o oj (at_ a) _ w w' ho hj hL hl' (fun d hd => h.closed j oj d hj hl' hd) (fun k hk => jA _ _ _ _ hk) (h.told j oj hj hl') hR
 rest := fun k hk => by
  have hne : o.dst ≠ some k := fun e => hk i (by simp) (by rw [ho]; exact e)
  rw [jA _ _ _ _ hne]
  exact h.rest k (fun j hj => hk j (by simp [hj]))
 closed := fun j o' d hj hl hd' => by
  by_cases e : j = i
  ·subst e
   rw [ho] at hj; cases hj
   simp [hr d hd']
  ·have hl' : L j = true := by simpa [e] using hl
   simp [h.closed j o' d hj hl' hd']
theorem zTa (hac : acyc ops = true) (mono : zCn ops T R)
  (step : ∀ (L : Nat → Bool) (i : Nat) (o : Oper) (a : Act) (w : World), ops[i]? = some o → InvG ops G T a0 L a w → L i = false → (∀ d ∈ deps o, L d = true) →
   wpOp P ops Q i (fun a' w' => ∃ v, a' = a.put o.dst v ∧ T i (at_ (a.put o.dst v)) w' ∧ G w' ∧ R i (at_ (a.put o.dst v)) w w') a w)
  (done : ∀ a w, InvG ops G T a0 (fun _ => true) a w → Q .normal a w) :
  ∀ (fuel : Nat) (listed : Array Bool) (a : Act) (w : World), listed.size = ops.size → left ops.size listed ≤ fuel → InvG ops G T a0 (fun j => listed.getD j false) a w → wpAny P .any ops Q fuel listed a w := by
 have fin : ∀ (listed : Array Bool) (a : Act) (w : World), listed.size = ops.size → Region.ready .any ops listed = [] → InvG ops G T a0 (fun j => listed.getD j false) a w → Q .normal a w := fun listed a w hs hr hI => by
  refine done a w ?_
  have hall := zCm hac hr hs
  have hL : ∀ j o, ops[j]? = some o → listed.getD j false = true := fun j o hj => by
   have hjs : j < ops.size := by
    by_cases hl : j < ops.size
    ·exact hl
    ·have e : ops[j]? = none := by simp; omega
     rw [e] at hj; cases hj
   have := hall j hjs
   have hjl : j < listed.size := by omega
   simpa [Array.getD_eq_getD_getElem?, Array.getElem?_eq_getElem hjl] using this
  exact ⟨hI.g, hI.defers, hI.size, fun j o hj _ => hI.told j o hj (hL j o hj), fun k hk => hI.rest k (fun j hj => hk j rfl), fun _ _ _ _ _ _ => rfl⟩
 intro fuel
 induction fuel with
 | zero =>
  intro listed a w hs hf hI
  have hr : Region.ready .any ops listed = [] := by
   refine List.eq_nil_iff_forall_not_mem.2 fun i hi => ?_
   obtain ⟨h1, h2, _⟩ := mem_ready.1 hi
   have h0 : left ops.size listed = 0 := by omega
   have := (List.countP_eq_zero.1 h0) i (List.mem_range.2 h1)
   simp [h2] at this
  exact ⟨hr, fin listed a w hs hr hI⟩
 | succ fuel ih =>
  intro listed a w hs hf hI
  refine ⟨fun hr => fin listed a w hs hr hI, fun i hi => ?_⟩
  obtain ⟨h1, h2, o, ho, h3⟩ := mem_ready.1 hi
  have hil : i < listed.size := by omega
  have hLi : listed.getD i false = false := by
   simpa [Array.getD_eq_getD_getElem?, Array.getElem?_eq_getElem hil] using h2
  refine wpOp_mono ?_ (step (fun j => listed.getD j false) i o a w ho hI hLi h3)
  rintro a' w' ⟨v, rfl, hT, hG, hR⟩
  refine ih _ _ _ (by simpa using hs) ?_ ?_
  ·have hlt : left ops.size (listed.setIfInBounds i true) < left ops.size listed := by
    refine zC7 (x := i) (fun x hx => ?_) (List.mem_range.2 h1) (by simp [h2]) ?_
    ·by_cases hxi : x = i
     ·subst hxi; simp [h2]
     ·simpa [Array.getD_eq_getD_getElem?, Array.getElem?_setIfInBounds, Ne.symm hxi] using hx
    ·simp [Array.getD_eq_getD_getElem?, hil]
   omega
  ·have hI' := hI.nextF mono ho hLi h3 hT hG hR
   have e : (fun j => (listed.setIfInBounds i true).getD j false) = fun j => listed.getD j false || j == i := by
    funext j
    by_cases hj : j = i
    ·subst hj; simp [Array.getD_eq_getD_getElem?, hil]
    ·simp [Array.getD_eq_getD_getElem?, Ne.symm hj, hj]
   rw [e]
   exact hI'
theorem zGl {id : Nat} (hm : P.follows .mixedOrders = true) (hac : acyc ops = true) (G : World → Prop) (T : Nat → (Nat → Value) → World → Prop) (R : Nat → (Nat → Value) → World → World → Prop)
  (mono : zCn ops T R) (hG : G w.drew)
  (step : ∀ (L : Nat → Bool) (i : Nat) (o : Oper) (a : Act) (w : World), ops[i]? = some o → InvG ops G T a0 L a w → L i = false → (∀ d ∈ deps o, L d = true) →
   wpOp P ops Q i (fun a' w' => ∃ v, a' = a.put o.dst v ∧ T i (at_ (a.put o.dst v)) w' ∧ G w' ∧ R i (at_ (a.put o.dst v)) w w') a w)
  (done : ∀ a w, InvG ops G T a0 (fun _ => true) a w → Q .normal a w) : (Code.region id ops true).wp P Q a0 w := by
 have no : ∀ j, (Array.replicate ops.size false).getD j false = true → False := fun j hl => by
  by_cases hj : j < ops.size
  ·simp [Array.getD_eq_getD_getElem?, hj] at hl
  ·simp [Array.getD_eq_getD_getElem?, hj] at hl
 exact wp_region_any hm (zTa hac mono step done ops.size _ a0 w.drew (by simp) (by
  refine Nat.le_trans List.countP_le_length ?_
  simp) ⟨hG, rfl, rfl, fun j o _ hl => (no j hl).elim, fun _ _ => rfl, fun j o d _ hl _ => (no j hl).elim⟩)
end
def zM7 (ops : Array Oper) (S : List (List Nat)) (X : Nat → Nat → Bool) : Bool := (List.range ops.size).all fun j => (S.getD j []).all fun s => (List.range ops.size).all fun i =>
 (ops[i]?).bind (·.dst) != some s || i == j || X i j || (match ops[j]? with | some o => (deps o).contains i | none => true)
section
variable {ops : Array Oper} {T : Nat → (Nat → Value) → World → Prop} {R : Nat → (Nat → Value) → World → World → Prop} {S : List (List Nat)} {X : Nat → Nat → Bool}
theorem zJx (hS : zM7 ops S X = true) (hK : ∀ i j f f' w w', i ≠ j → X i j = false → (∀ s ∈ S.getD j [], f' s = f s) → T j f w → R i f' w w' → T j f' w')
  (hX : ∀ i j f f' w w' oi, i ≠ j → X i j = true → ops[i]? = some oi → (∀ k, oi.dst ≠ some k → f' k = f k) → T j f w → R i f' w w' → T j f' w') : zCn ops T R := by
 intro L i j oi oj f f' w w' hi hj hLi hLj hdep hf hT hRi
 have hne : i ≠ j := fun e => by rw [e, hLj] at hLi; cases hLi
 have hil : i < ops.size := by
  by_cases hl : i < ops.size
  ·exact hl
  ·have e : ops[i]? = none := by simp; omega
   rw [e] at hi; cases hi
 have hjl : j < ops.size := by
  by_cases hl : j < ops.size
  ·exact hl
  ·have e : ops[j]? = none := by simp; omega
   rw [e] at hj; cases hj
 cases hx : X i j
 ·refine hK i j f f' w w' hne hx (fun s hs => hf s fun e => ?_) hT hRi
  have h1 := List.all_eq_true.1 (List.all_eq_true.1 (List.all_eq_true.1 hS j (List.mem_range.2 hjl)) s hs) i (List.mem_range.2 hil)
  rw [hi, hj] at h1
  simp only [Option.bind_some, e, bne_self_eq_false, Bool.false_or, Bool.or_eq_true, beq_iff_eq, hx, Bool.false_eq_true, or_false] at h1
  rcases h1 with h1 | h1
  ·exact hne h1
  ·have := hdep i (List.contains_iff_mem.1 h1)
   rw [hLi] at this; cases this
 ·exact hX i j f f' w w' oi hne hx hi hf hT hRi
end
section
variable {P : Program} {Q : Exit → Act → World → Prop} {a : Act} {o : Oper} {w : World} {K : Act → World → Prop}
theorem zTl {t e : TypeId} {i : TypeInfo} {z : Value} {size : Nat} (l c : Operand) (hop : o.op = Op.makeSlice t l c) (base : Nat) (h1 : P.underlying t = some (.slice e)) (h2 : P.info? e = some i) (h3 : i.zero = some z) (h4 : i.size = size)
  (kl kc : IntKind) (n : Nat) (hl : a.eval l = .int kl (n : Int)) (hc : a.eval c = .int kc (n : Int)) (b2 : i.bytes * n ≤ 281474976710656) (b3 : n ≤ maxLen) (b4 : base ≤ w.heap.size)
  (hK : ∀ w', w'.ownsRow base e size (.slice (some ⟨w.heap.size, 0, none⟩) n n) n (madeCells z.cells (n * size)).toList → w.grownBy w' none → K (a.put o.dst (.slice (some ⟨w.heap.size, 0, none⟩) n n)) w') : o.wp P a w K Q := by
 obtain ⟨w', hrun, r1, r2⟩ := run_make_full (P := P) w base t e i z size h1 h2 h3 h4 kl kc n b2 b3 b4
 unfold Oper.wp
 simp [execOp, hop, hl, hc, hrun, Result.andThen]
 exact hK w' r1 r2
end
structure InvS (ops : Array Oper) (s : Nat) (G : Bool → World → Prop) (T : Nat → (Nat → Value) → World → Prop) (a0 : Act) (L : Nat → Bool) (a : Act) (w : World) : Prop where
 g : G (L s) w
 defers : a.defers = a0.defers
 size : a.tmps.size = a0.tmps.size
 told : ∀ j o, ops[j]? = some o → L j = true → T j (at_ a) w
 rest : ∀ k, (∀ j, L j = true → (ops[j]?).bind (·.dst) ≠ some k) → a.tmps.getD k undef = a0.tmps.getD k undef
 closed : ∀ j o d, ops[j]? = some o → L j = true → d ∈ deps o → L d = true
section
variable {P : Program} {ops : Array Oper} {Q : Exit → Act → World → Prop} {s : Nat} {G : Bool → World → Prop} {T : Nat → (Nat → Value) → World → Prop} {R : Nat → (Nat → Value) → World → World → Prop} {a0 a : Act} {L : Nat → Bool} {w w' : World} {i : Nat} {o : Oper} {v : Value}
theorem InvS.nextS (h : InvS ops s G T a0 L a w) (mono : zCn ops T R) (ho : ops[i]? = some o) (hL : L i = false)
  (hr : ∀ d ∈ deps o, L d = true) (hT : T i (at_ (a.put o.dst v)) w') (hG : G (L s || s == i) w') (hR : R i (at_ (a.put o.dst v)) w w') : InvS ops s G T a0 (fun j => L j || j == i) (a.put o.dst v) w' where
 g := hG
 defers := (put_defers _ _ _).trans h.defers
 size := (zFf _ _ _).trans h.size
 told := fun j oj hj hl => by
  by_cases hji : j = i
  ·subst hji; exact hT
  ·have hl' : L j = true := by simpa [hji] using hl
   exact mono L i j o oj (at_ a) _ w w' ho hj hL hl' (fun d hd => h.closed j oj d hj hl' hd) (fun k hk => jA _ _ _ _ hk) (h.told j oj hj hl') hR
 rest := fun k hk => by
  have hne : o.dst ≠ some k := fun e => hk i (by simp) (by rw [ho]; exact e)
  rw [jA _ _ _ _ hne]
  exact h.rest k (fun j hj => hk j (by simp [hj]))
 closed := fun j o' d hj hl hd' => by
  by_cases e : j = i
  ·subst e
   rw [ho] at hj; cases hj
   simp [hr d hd']
  ·have hl' : L j = true := by simpa [e] using hl
   simp [h.closed j o' d hj hl' hd']
theorem zS9 (hss : s < ops.size) (hac : acyc ops = true) (mono : zCn ops T R)
  (step : ∀ (L : Nat → Bool) (i : Nat) (o : Oper) (a : Act) (w : World), ops[i]? = some o → InvS ops s G T a0 L a w → L i = false → (∀ d ∈ deps o, L d = true) →
   wpOp P ops Q i (fun a' w' => ∃ v, a' = a.put o.dst v ∧ T i (at_ (a.put o.dst v)) w' ∧ G (L s || s == i) w' ∧ R i (at_ (a.put o.dst v)) w w') a w)
  (done : ∀ a w, InvS ops s G T a0 (fun _ => true) a w → Q .normal a w) :
  ∀ (fuel : Nat) (listed : Array Bool) (a : Act) (w : World), listed.size = ops.size → left ops.size listed ≤ fuel → InvS ops s G T a0 (fun j => listed.getD j false) a w → wpAny P .any ops Q fuel listed a w := by
 have fin : ∀ (listed : Array Bool) (a : Act) (w : World), listed.size = ops.size → Region.ready .any ops listed = [] → InvS ops s G T a0 (fun j => listed.getD j false) a w → Q .normal a w := fun listed a w hs hr hI => by
  refine done a w ?_
  have hall := zCm hac hr hs
  have hL : ∀ j o, ops[j]? = some o → listed.getD j false = true := fun j o hj => by
   have hjs : j < ops.size := by
    by_cases hl : j < ops.size
    ·exact hl
    ·have e : ops[j]? = none := by simp; omega
     rw [e] at hj; cases hj
   have := hall j hjs
   have hjl : j < listed.size := by omega
   simpa [Array.getD_eq_getD_getElem?, Array.getElem?_eq_getElem hjl] using this
  have hg1 : G true w := by
   have hall' := hall s hss
   have h1 := hI.g
   have hjl : s < listed.size := by omega
   have e : listed.getD s false = true := by simpa [Array.getD_eq_getD_getElem?, Array.getElem?_eq_getElem hjl] using hall'
   rw [e] at h1; exact h1
  exact ⟨hg1, hI.defers, hI.size, fun j o hj _ => hI.told j o hj (hL j o hj), fun k hk => hI.rest k (fun j hj => hk j rfl), fun _ _ _ _ _ _ => rfl⟩
 intro fuel
 induction fuel with
 | zero =>
  intro listed a w hs hf hI
  have hr : Region.ready .any ops listed = [] := by
   refine List.eq_nil_iff_forall_not_mem.2 fun i hi => ?_
   obtain ⟨h1, h2, _⟩ := mem_ready.1 hi
   have h0 : left ops.size listed = 0 := by omega
   have := (List.countP_eq_zero.1 h0) i (List.mem_range.2 h1)
   simp [h2] at this
  exact ⟨hr, fin listed a w hs hr hI⟩
 | succ fuel ih =>
  intro listed a w hs hf hI
  refine ⟨fun hr => fin listed a w hs hr hI, fun i hi => ?_⟩
  obtain ⟨h1, h2, o, ho, h3⟩ := mem_ready.1 hi
  have hil : i < listed.size := by omega
  have hLi : listed.getD i false = false := by
   simpa [Array.getD_eq_getD_getElem?, Array.getElem?_eq_getElem hil] using h2
  refine wpOp_mono ?_ (step (fun j => listed.getD j false) i o a w ho hI hLi h3)
  rintro a' w' ⟨v, rfl, hT, hG, hR⟩
  refine ih _ _ _ (by simpa using hs) ?_ ?_
  ·have hlt : left ops.size (listed.setIfInBounds i true) < left ops.size listed := by
    refine zC7 (x := i) (fun x hx => ?_) (List.mem_range.2 h1) (by simp [h2]) ?_
    ·by_cases hxi : x = i
     ·subst hxi; simp [h2]
     ·simpa [Array.getD_eq_getD_getElem?, Array.getElem?_setIfInBounds, Ne.symm hxi] using hx
    ·simp [Array.getD_eq_getD_getElem?, hil]
   omega
  ·have hI' := hI.nextS mono ho hLi h3 hT hG hR
   have e : (fun j => (listed.setIfInBounds i true).getD j false) = fun j => listed.getD j false || j == i := by
    funext j
    by_cases hj : j = i
    ·subst hj; simp [Array.getD_eq_getD_getElem?, hil]
    ·simp [Array.getD_eq_getD_getElem?, Ne.symm hj, hj]
   rw [e]
   exact hI'
theorem zCt {id : Nat} (hm : P.follows .mixedOrders = true) (hac : acyc ops = true) (s : Nat) (hss : s < ops.size) (G : Bool → World → Prop) (T : Nat → (Nat → Value) → World → Prop) (R : Nat → (Nat → Value) → World → World → Prop)
  (mono : zCn ops T R) (hG : G false w.drew)
  (step : ∀ (L : Nat → Bool) (i : Nat) (o : Oper) (a : Act) (w : World), ops[i]? = some o → InvS ops s G T a0 L a w → L i = false → (∀ d ∈ deps o, L d = true) →
   wpOp P ops Q i (fun a' w' => ∃ v, a' = a.put o.dst v ∧ T i (at_ (a.put o.dst v)) w' ∧ G (L s || s == i) w' ∧ R i (at_ (a.put o.dst v)) w w') a w)
  (done : ∀ a w, InvS ops s G T a0 (fun _ => true) a w → Q .normal a w) : (Code.region id ops true).wp P Q a0 w := by
 have no : ∀ j, (Array.replicate ops.size false).getD j false = true → False := fun j hl => by
  by_cases hj : j < ops.size
  ·simp [Array.getD_eq_getD_getElem?, hj] at hl
  ·simp [Array.getD_eq_getD_getElem?, hj] at hl
 have hg0 : G ((Array.replicate ops.size false).getD s false) w.drew := by
  have e : (Array.replicate ops.size false).getD s false = false := by simp [Array.getD_eq_getD_getElem?, hss]
  rw [e]; exact hG
 exact wp_region_any hm (zS9 hss hac mono step done ops.size _ a0 w.drew (by simp) (by
  refine Nat.le_trans List.countP_le_length ?_
  simp) ⟨hg0, rfl, rfl, fun j o _ hl => (no j hl).elim, fun _ _ => rfl, fun j o d _ hl _ => (no j hl).elim⟩)
theorem InvS.get (h : InvS ops s G T a0 L a w) (hr : ∀ d ∈ deps o, L d = true) (j : Nat) {oj : Oper} (hj : ops[j]? = some oj) (hd : (deps o).contains j = true) : T j (at_ a) w :=
 h.told j oj hj (hr j (by simpa using hd))
theorem InvS.old (h : InvS ops s G T a0 L a w) (k : Nat) (hk : (ops.all fun o => o.dst != some k) = true) : a.tmps.getD k undef = a0.tmps.getD k undef :=
 h.rest k fun j _ e => by
  cases hj : ops[j]? with
  | none => simp [hj] at e
  | some o =>
   have h1 := (Array.all_eq_true_iff_forall_mem.1 hk) o (Array.mem_of_getElem? hj)
   simp [hj] at e
   simp [e] at h1
end
def wider (ops : Array Oper) : Nat → List Nat → List Nat
 | 0, l => l
 | n + 1, l => wider ops n ((List.range ops.size).filter fun i => l.contains i || l.any fun j => match ops[j]? with
  | some o => (deps o).contains i
  | none => false)
def zQh (ops : Array Oper) (s : Nat) : Bool := (List.range ops.size).all fun i => (wider ops ops.size [s]).contains i
theorem zA2 {ops : Array Oper} {L : Nat → Bool} (h : ∀ j o d, ops[j]? = some o → L j = true → d ∈ deps o → L d = true) : ∀ (n : Nat) (l : List Nat), (∀ i ∈ l, L i = true) → ∀ i ∈ wider ops n l, L i = true
 | 0, l, hl, i, hi => hl i hi
 | n + 1, l, hl, i, hi => by
  refine zA2 h n _ (fun j hj => ?_) i hi
  rw [List.mem_filter] at hj
  have h2 := hj.2
  rw [Bool.or_eq_true] at h2
  rcases h2 with h2 | h2
  ·exact hl j (List.contains_iff_mem.1 h2)
  ·obtain ⟨x, hx, hd⟩ := List.any_eq_true.1 h2
   cases hq : ops[x]? with
   | none => simp [hq] at hd
   | some o =>
    simp only [hq] at hd
    exact h x o j hq (hl x hx) (List.contains_iff_mem.1 hd)
def vD (ops : Array Oper) (vals : List Value) (j : Nat) (f : Nat → Value) (W : World) : Prop := ∀ k, (ops[j]?).bind (·.dst) = some k → f k = vals.getD j undef
section
variable {P : Program} {ops : Array Oper} {Q : Exit → Act → World → Prop} {s : Nat} {a0 a : Act} {L : Nat → Bool} {w w' : World} {i : Nat} {o : Oper} {v : Value} {vals : List Value}
theorem zH4 {n : Nat} (hds : zCi ops n = true) : zCn ops (vD ops vals) (fun _ _ _ _ => True) := by
 intro L i j oi oj f f' w w' hi hj hLi hLj _ hf hT _ k hk
 rw [hf k (fun e => ?_)]
 ·exact hT k hk
 ·have : i = j := zEo hds (by rw [hi]; exact e) hk
  rw [this, hLj] at hLi; cases hLi
theorem qD {id : Nat} (hm : P.follows .mixedOrders = true) (hac : acyc ops = true) (s : Nat) (hss : s < ops.size) (hds : zCi ops a0.tmps.size = true) (G : Bool → World → Prop) (vals : List Value) (hG : G false w.drew)
  (step : ∀ (L : Nat → Bool) (i : Nat) (o : Oper) (a : Act) (w : World), ops[i]? = some o → InvS ops s G (vD ops vals) a0 L a w → L i = false → (∀ d ∈ deps o, L d = true) →
   wpOp P ops Q i (fun a' w' => ∃ v, a' = a.put o.dst v ∧ v = vals.getD i undef ∧ G (L s || s == i) w') a w)
  (done : ∀ a w, InvS ops s G (vD ops vals) a0 (fun _ => true) a w → Q .normal a w) : (Code.region id ops true).wp P Q a0 w := by
 refine zCt hm hac s hss G (vD ops vals) (fun _ _ _ _ => True) (zH4 hds) hG ?_ done
 intro L i o a w hi hI hL hd
 refine wpOp_mono ?_ (step L i o a w hi hI hL hd)
 rintro a' w' ⟨v, rfl, hv, hg⟩
 refine ⟨v, rfl, fun k hk => ?_, hg, trivial⟩
 rw [hi] at hk
 have hk' : o.dst = some k := hk
 have hlt : k < a0.tmps.size := zE3 hds (i := i) (by rw [hi]; exact hk')
 rw [hk']
 show (a.put (some k) v).tmps.getD k undef = _
 rw [zG _ _ _ (by rw [hI.size]; exact hlt)]
 exact hv
theorem InvS.val {G : Bool → World → Prop} (h : InvS ops s G (vD ops vals) a0 L a w) (hr : ∀ d ∈ deps o, L d = true) (j k : Nat) {oj : Oper} (hj : ops[j]? = some oj) (hk : oj.dst = some k) (hd : (deps o).contains j = true) : a.eval (.tmp k) = vals.getD j undef :=
 (h.get hr j hj hd) k (by rw [hj]; exact hk)
theorem InvS.last {G : Bool → World → Prop} (h : InvS ops s G (vD ops vals) a0 (fun _ => true) a w) (j k : Nat) (hj : (ops[j]?).bind (·.dst) = some k) : a.tmps.getD k undef = vals.getD j undef := by
 cases hq : ops[j]? with
 | none => simp [hq] at hj
 | some oj => exact (h.told j oj hq rfl) k hj
def ge (G E : World → Prop) (b : Bool) (W : World) : Prop := if b = true then E W else G W
theorem xA {id : Nat} (hm : P.follows .mixedOrders = true) (hac : acyc ops = true) (s : Nat) (hss : s < ops.size) (hall : zQh ops s = true) (hds : zCi ops a0.tmps.size = true) (G E : World → Prop) (vals : List Value) (hG : G w.drew)
  (step : ∀ (L : Nat → Bool) (i : Nat) (o : Oper) (a : Act) (w : World), i ≠ s → ops[i]? = some o → InvS ops s (ge G E) (vD ops vals) a0 L a w → G w → (∀ d ∈ deps o, L d = true) →
   wpOp P ops Q i (fun a' w' => ∃ v, a' = a.put o.dst v ∧ v = vals.getD i undef ∧ G w') a w)
  (last : ∀ (L : Nat → Bool) (o : Oper) (a : Act) (w : World), ops[s]? = some o → InvS ops s (ge G E) (vD ops vals) a0 L a w → G w → (∀ d ∈ deps o, L d = true) →
   wpOp P ops Q s (fun a' w' => ∃ v, a' = a.put o.dst v ∧ v = vals.getD s undef ∧ E w') a w)
  (done : ∀ a w, InvS ops s (ge G E) (vD ops vals) a0 (fun _ => true) a w → E w → Q .normal a w) : (Code.region id ops true).wp P Q a0 w := by
 refine qD hm hac s hss hds (ge G E) vals (by simpa [ge] using hG) ?_ (fun a w hI => done a w hI (by simpa [ge] using hI.g))
 intro L i o a w hi hI hL hd
 have hil : i < ops.size := by
  by_cases hl : i < ops.size
  ·exact hl
  ·have e : ops[i]? = none := by simp; omega
   rw [e] at hi; cases hi
 have hLs : L s = false := by
  cases hq : L s with
  | false => rfl
  | true =>
   have h1 := List.all_eq_true.1 hall i (List.mem_range.2 hil)
   have := zA2 (L := L) hI.closed ops.size [s] (fun j hj => by simp at hj; rw [hj]; exact hq) i (List.contains_iff_mem.1 h1)
   rw [this] at hL; cases hL
 have hg : G w := by have := hI.g; simpa [ge, hLs] using this
 by_cases e : i = s
 ·subst e
  refine wpOp_mono ?_ (last L o a w hi hI hg hd)
  rintro a' w' ⟨v, rfl, hv, he⟩
  exact ⟨v, rfl, hv, by simpa [ge] using he⟩
 ·refine wpOp_mono ?_ (step L i o a w e hi hI hg hd)
  rintro a' w' ⟨v, rfl, hv, he⟩
  exact ⟨v, rfl, hv, by simpa [ge, hLs, Ne.symm e] using he⟩
theorem qK {x : Operand} {K : Act → World → Prop} {ad : Addr} (ho : o.op = .nilCheck x) (hx : a.eval x = .pointer (some ad)) (h : K (a.put o.dst (.pointer (some ad))) w) : o.wp P a w K Q := by
 refine qX ?_ h
 unfold execOp
 simp only [ho, hx]
 simp [go_sem]
end
def qJ (f : Nat → Value) (ks : List Nat) (t : Array Value) : Array Value := ks.foldl (fun t k => t.setIfInBounds k (f k)) t
theorem zDw (f : Nat → Value) : ∀ (ks : List Nat) (t : Array Value), (qJ f ks t).size = t.size
 | [], t => rfl
 | k :: ks, t => (zDw f ks _).trans (by simp)
theorem zHw (f : Nat → Value) : ∀ (ks : List Nat) (t : Array Value) (k : Nat), k < t.size → (qJ f ks t).getD k undef = if k ∈ ks then f k else t.getD k undef
 | [], t, k, _ => by simp [qJ]
 | j :: ks, t, k, hk => by
  have ih := zHw f ks (t.setIfInBounds j (f j)) k (by simpa using hk)
  have e : qJ f (j :: ks) t = qJ f ks (t.setIfInBounds j (f j)) := rfl
  rw [e, ih]
  by_cases hm : k ∈ ks
  ·simp [hm]
  ·by_cases hj : k = j
   ·subst hj
    simp [hm, Array.getD_eq_getD_getElem?, hk]
   ·have hj' : ¬ j = k := fun e => hj e.symm
    simp [hm, hj, hj', Array.getD_eq_getD_getElem?]
theorem zIi {A a0 : Act} {ks : List Nat} (hs : A.tmps.size = a0.tmps.size) (hd : A.defers = a0.defers) (hr : ∀ k, k ∉ ks → A.tmps.getD k undef = a0.tmps.getD k undef) : A = ⟨qJ (fun k => A.tmps.getD k undef) ks a0.tmps, a0.defers⟩ := by
 obtain ⟨t, d⟩ := A
 simp only at hs hd hr
 subst hd
 congr 1
 apply Array.ext_getElem?
 intro k
 by_cases hk : k < t.size
 ·have h1 := zHw (fun k => t.getD k undef) ks a0.tmps k (by omega)
  have h2 : (qJ (fun k => t.getD k undef) ks a0.tmps).getD k undef = t.getD k undef := by
   rw [h1]
   by_cases hm : k ∈ ks
   ·simp [hm]
   ·rw [if_neg hm]; exact (hr k hm).symm
  have hp : k < (qJ (fun k => t.getD k undef) ks a0.tmps).size := by rw [zDw]; omega
  rw [Array.getD_eq_getD_getElem?, Array.getD_eq_getD_getElem?, Array.getElem?_eq_getElem hp, Array.getElem?_eq_getElem hk] at h2
  rw [Array.getElem?_eq_getElem hp, Array.getElem?_eq_getElem hk]
  exact congrArg some h2.symm
 ·have e1 : t[k]? = none := by simp; omega
  have e2 : (qJ (fun k => t.getD k undef) ks a0.tmps)[k]? = none := by simp [zDw]; omega
  rw [e1, e2]
section
variable {ops : Array Oper} {G : World → Prop} {T : Nat → Value → World → Prop} {T' : Nat → (Nat → Value) → World → Prop} {a0 a : Act} {L : Nat → Bool} {w : World}
def dsts (ops : Array Oper) (ks : List Nat) : Bool := ops.all fun o => match o.dst with | some k => ks.contains k | none => true
theorem zIm {ks : List Nat} (h : dsts ops ks = true) {k : Nat} (hk : k ∉ ks) (j : Nat) : (ops[j]?).bind (·.dst) ≠ some k := fun e => by
 cases hj : ops[j]? with
 | none => simp [hj] at e
 | some o =>
  have h1 := (Array.all_eq_true_iff_forall_mem.1 h) o (Array.mem_of_getElem? hj)
  simp [hj] at e
  rw [e] at h1
  exact hk (by simpa using h1)
theorem Inv.frame (h : Inv ops G T a0 L a w) (ks : List Nat) (hks : dsts ops ks = true) : a = ⟨qJ (fun k => a.tmps.getD k undef) ks a0.tmps, a0.defers⟩ :=
 zIi h.size h.defers fun k hk => h.rest k fun j _ => zIm hks hk j
theorem InvG.frame (h : InvG ops G T' a0 L a w) (ks : List Nat) (hks : dsts ops ks = true) : a = ⟨qJ (fun k => a.tmps.getD k undef) ks a0.tmps, a0.defers⟩ :=
 zIi h.size h.defers fun k hk => h.rest k fun j _ => zIm hks hk j
end
section
variable {ops : Array Oper} {s : Nat} {G : Bool → World → Prop} {T : Nat → (Nat → Value) → World → Prop} {a0 a : Act} {L : Nat → Bool} {w : World}
theorem InvS.frame (h : InvS ops s G T a0 L a w) (ks : List Nat) (hks : dsts ops ks = true) : a = ⟨qJ (fun k => a.tmps.getD k undef) ks a0.tmps, a0.defers⟩ :=
 zIi h.size h.defers fun k hk => h.rest k fun j _ => zIm hks hk j
end
theorem InvS.vl {ops : Array Oper} {s : Nat} {a0 a : Act} {L : Nat → Bool} {w : World} {o : Oper} {vals : List Value} {G : Bool → World → Prop} (h : InvS ops s G (vD ops vals) a0 L a w) (hr : ∀ d ∈ deps o, L d = true) (j : Nat) {k : Nat} {v : Value} (hv : pick ops o vals j = some (k, v)) : a.eval (.tmp k) = v := by
 obtain ⟨h1, h2, oj, h3, h4⟩ := zEz hv
 rw [h.val hr j k h3 h4 h1, h2]
theorem InvS.ls {ops : Array Oper} {s : Nat} {a0 a : Act} {w : World} {vals : List Value} {G : Bool → World → Prop} (h : InvS ops s G (vD ops vals) a0 (fun _ => true) a w) (j : Nat) {k : Nat} {v : Value} (hj : (ops[j]?).bind (·.dst) = some k) (hv : vals[j]? = some v) : a.tmps.getD k undef = v := by
 rw [h.last j k hj, List.getD_eq_getElem?_getD, hv]; rfl
theorem InvS.ol {ops : Array Oper} {s : Nat} {G : Bool → World → Prop} {T : Nat → (Nat → Value) → World → Prop} {a0 a : Act} {L : Nat → Bool} {w : World} (h : InvS ops s G T a0 L a w) (k : Nat) {v : Value} (hv : free ops a0.tmps k = some v) : a.eval (.tmp k) = v := (h.old k (zBl hv).1).trans (zBl hv).2
def zCv (ops : Array Oper) (ks : List Nat) : Bool := decide ks.Nodup && decide (ks.length = ops.size) && (List.range ops.size).all fun i => (ops[i]?).bind (·.dst) == some (ks.getD i 0)
def gathers (ops : Array Oper) (s : Nat) (af : Nat → Bool) : Bool := (List.range ops.size).all fun i =>
 if af i then (match ops[i]? with | some o => (deps o).contains s | none => true) else (wider ops ops.size [s]).contains i
section
variable {P : Program} {ops : Array Oper} {Q : Exit → Act → World → Prop} {s : Nat} {a0 a : Act} {L : Nat → Bool} {w w' : World} {i : Nat} {o : Oper} {v : Value} {ks : List Nat} {af : Nat → Bool} {Tb : Nat → Value → World → Prop} {Ts : Value → World → Prop}
theorem zK0 (h : zCv ops ks = true) (hi : ops[i]? = some o) : o.dst = some (ks.getD i 0) ∧ i < ks.length := by
 simp only [zCv, Bool.and_eq_true, decide_eq_true_eq] at h
 have hl : i < ops.size := by
  by_cases hl : i < ops.size
  ·exact hl
  ·have e : ops[i]? = none := by simp; omega
   rw [e] at hi; cases hi
 have := List.all_eq_true.1 h.2 i (List.mem_range.2 hl)
 rw [hi] at this
 exact ⟨by simpa using this, by rw [h.1.2]; exact hl⟩
theorem zRz (h : zCv ops ks = true) {i j : Nat} (hi : i < ks.length) (hj : j < ks.length) (hne : i ≠ j) : ks.getD i 0 ≠ ks.getD j 0 := by
 simp only [zCv, Bool.and_eq_true, decide_eq_true_eq] at h
 rw [List.getD_eq_getElem?_getD, List.getD_eq_getElem?_getD, List.getElem?_eq_getElem hi, List.getElem?_eq_getElem hj]
 intro e
 exact hne ((List.getElem_inj h.1.1).1 e)
def gT (ks : List Nat) (s : Nat) (af : Nat → Bool) (Tb : Nat → Value → World → Prop) (Ts : Value → World → Prop) (j : Nat) (f : Nat → Value) (W : World) : Prop :=
 if j = s ∨ af j = true then Ts (f (ks.getD j 0)) W else Tb j (f (ks.getD j 0)) W ∨ Ts (f (ks.getD s 0)) W
def gR (ks : List Nat) (s : Nat) (Ts : Value → World → Prop) (i : Nat) (f' : Nat → Value) (W W' : World) : Prop := if i = s then Ts (f' (ks.getD s 0)) W' else Below W.heap.size W W'
theorem zVk (hk : zCv ops ks = true) (hga : gathers ops s af = true) (hs : s < ops.size) (hTb : ∀ j v W W', Tb j v W → Below W.heap.size W W' → Tb j v W') (hTs : ∀ v W W', Ts v W → Below W.heap.size W W' → Ts v W') :
  zCn ops (gT ks s af Tb Ts) (gR ks s Ts) := by
 intro L i j oi oj f f' W W' hi hj hLi hLj hdep hf hT hR
 have hne : i ≠ j := fun e => by rw [e, hLj] at hLi; cases hLi
 have hi' := zK0 hk hi
 have hj' := zK0 hk hj
 have hs' : s < ks.length := by
  simp only [zCv, Bool.and_eq_true, decide_eq_true_eq] at hk
  rw [hk.1.2]; exact hs
 have hjl : j < ops.size := (Array.getElem?_eq_some_iff.1 hj).1
 by_cases his : i = s
 ·subst his
  simp only [gR, if_true] at hR
  by_cases hja : af j = true
  ·have h1 := List.all_eq_true.1 hga j (List.mem_range.2 hjl)
   rw [if_pos hja, hj] at h1
   have := hdep i (List.contains_iff_mem.1 h1)
   rw [this] at hLi; cases hLi
  ·unfold gT
   rw [if_neg (by intro e; rcases e with e | e; exact hne e.symm; exact hja e)]
   exact .inr hR
 ·simp only [gR, his, if_false] at hR
  have e1 : f' (ks.getD j 0) = f (ks.getD j 0) := hf _ (by rw [hi'.1]; intro e; exact zRz hk hi'.2 hj'.2 hne (Option.some.inj e))
  have e2 : f' (ks.getD s 0) = f (ks.getD s 0) := hf _ (by rw [hi'.1]; intro e; exact zRz hk hi'.2 hs' his (Option.some.inj e))
  unfold gT at hT ⊢
  by_cases hq : j = s ∨ af j = true
  ·rw [if_pos hq] at hT ⊢
   rw [e1]; exact hTs _ _ _ hT hR
  ·rw [if_neg hq] at hT ⊢
   rw [e1, e2]
   rcases hT with h | h
   ·exact .inl (hTb _ _ _ _ h hR)
   ·exact .inr (hTs _ _ _ h hR)
theorem zC1 {id : Nat} (hm : P.follows .mixedOrders = true) (hac : acyc ops = true) (s : Nat) (hss : s < ops.size) (ks : List Nat) (hk : zCv ops ks = true) (af : Nat → Bool) (hga : gathers ops s af = true) (hsz : (ks.all fun k => decide (k < a0.tmps.size)) = true)
  (G E : World → Prop) (Tb : Nat → Value → World → Prop) (Ts : Value → World → Prop) (hTb : ∀ j v W W', Tb j v W → Below W.heap.size W W' → Tb j v W') (hTs : ∀ v W W', Ts v W → Below W.heap.size W W' → Ts v W')
  (hG : G w.drew) (hno : ∀ W, ¬ Ts (a0.tmps.getD (ks.getD s 0) undef) W)
  (step : ∀ (L : Nat → Bool) (i : Nat) (o : Oper) (a : Act) (w : World), i ≠ s → af i = false → ops[i]? = some o → InvS ops s (ge G E) (gT ks s af Tb Ts) a0 L a w → G w → (∀ j, (deps o).contains j = true → Tb j (a.tmps.getD (ks.getD j 0) undef) w) →
   wpOp P ops Q i (fun a' w' => ∃ v, a' = a.put o.dst v ∧ Tb i v w' ∧ G w' ∧ Below w.heap.size w w') a w)
  (gather : ∀ (L : Nat → Bool) (o : Oper) (a : Act) (w : World), ops[s]? = some o → InvS ops s (ge G E) (gT ks s af Tb Ts) a0 L a w → G w → (∀ j, (deps o).contains j = true → Tb j (a.tmps.getD (ks.getD j 0) undef) w) →
   wpOp P ops Q s (fun a' w' => ∃ v, a' = a.put o.dst v ∧ Ts v w' ∧ E w') a w)
  (after : ∀ (L : Nat → Bool) (i : Nat) (o : Oper) (a : Act) (w : World), af i = true → ops[i]? = some o → InvS ops s (ge G E) (gT ks s af Tb Ts) a0 L a w → E w → (∀ j, (deps o).contains j = true → j = s ∨ af j = true → Ts (a.tmps.getD (ks.getD j 0) undef) w) →
   wpOp P ops Q i (fun a' w' => ∃ v, a' = a.put o.dst v ∧ Ts v w' ∧ E w' ∧ Below w.heap.size w w') a w)
  (done : ∀ a w, InvS ops s (ge G E) (gT ks s af Tb Ts) a0 (fun _ => true) a w → E w → (∀ j o, ops[j]? = some o → j = s ∨ af j = true → Ts (a.tmps.getD (ks.getD j 0) undef) w) → Q .normal a w) : (Code.region id ops true).wp P Q a0 w := by
 have hs' : s < ks.length := by
  have hk' := hk
  simp only [zCv, Bool.and_eq_true, decide_eq_true_eq] at hk'
  rw [hk'.1.2]; exact hss
 have hafs : af s = false := by
  cases hq : af s with
  | false => rfl
  | true =>
   exfalso
   have h1 := List.all_eq_true.1 hga s (List.mem_range.2 hss)
   rw [if_pos hq, Array.getElem?_eq_getElem hss] at h1
   have h2 := List.all_eq_true.1 hac s (List.mem_range.2 hss)
   rw [Array.getElem?_eq_getElem hss] at h2
   have h3 := List.all_eq_true.1 h2 s (List.contains_iff_mem.1 h1)
   simp at h3
 refine zCt hm hac s hss (ge G E) (gT ks s af Tb Ts) (gR ks s Ts) (zVk hk hga hss hTb hTs) (by simpa [ge] using hG) ?_ ?_
 ·intro L i o a w hi hI hL hd
  have hi' := zK0 hk hi
  have hil : i < ops.size := (Array.getElem?_eq_some_iff.1 hi).1
  have hput : ∀ v, (a.put o.dst v).tmps.getD (ks.getD i 0) undef = v := fun v => by
   rw [hi'.1]
   refine zG _ _ _ ?_
   rw [hI.size]
   have := List.all_eq_true.1 hsz (ks.getD i 0) (by rw [List.getD_eq_getElem?_getD, List.getElem?_eq_getElem hi'.2]; exact List.getElem_mem _)
   simpa using this
  have hold : L s = false → a.tmps.getD (ks.getD s 0) undef = a0.tmps.getD (ks.getD s 0) undef := fun hLs => by
   refine hI.rest _ (fun j hLj e => ?_)
   cases hq : ops[j]? with
   | none => simp [hq] at e
   | some oj =>
    have hj' := zK0 hk hq
    rw [hq] at e
    have e' : oj.dst = some (ks.getD s 0) := e
    rw [hj'.1] at e'
    by_cases hjs : j = s
    ·rw [hjs, hLs] at hLj; cases hLj
    ·exact zRz hk hj'.2 hs' hjs (Option.some.inj e')
  have hdeps : L s = false → ∀ j, (deps o).contains j = true → Tb j (a.tmps.getD (ks.getD j 0) undef) w := fun hLs j hj => by
   have hLj := hd j (List.contains_iff_mem.1 hj)
   have hjs : j ≠ s := fun e => by rw [e, hLs] at hLj; cases hLj
   cases hq : ops[j]? with
   | none =>
    exfalso
    have h2 := List.all_eq_true.1 hac i (List.mem_range.2 hil)
    rw [hi] at h2
    have h3 := List.all_eq_true.1 h2 j (List.contains_iff_mem.1 hj)
    simp at h3
    have : j < ops.size := by omega
    simp at hq
    omega
   | some oj =>
    have hja : af j = false := by
     cases ha : af j with
     | false => rfl
     | true =>
      have hjl : j < ops.size := (Array.getElem?_eq_some_iff.1 hq).1
      have h1 := List.all_eq_true.1 hga j (List.mem_range.2 hjl)
      rw [if_pos ha, hq] at h1
      have := hI.closed j oj s hq hLj (List.contains_iff_mem.1 h1)
      rw [hLs] at this; cases this
    have hT := hI.told j oj hq hLj
    unfold gT at hT
    rw [if_neg (by rw [hja]; simp [hjs])] at hT
    rcases hT with h | h
    ·exact h
    ·exact absurd (by rw [← hold hLs]; exact h) (hno w)
  by_cases his : i = s
  ·subst his
   have hg : G w := by have := hI.g; simpa [ge, hL] using this
   refine wpOp_mono ?_ (gather L o a w hi hI hg (hdeps hL))
   rintro a' w' ⟨v, rfl, hv, he⟩
   refine ⟨v, rfl, ?_, by simpa [ge] using he, ?_⟩
   ·unfold gT; rw [if_pos (.inl rfl)]; show Ts ((a.put o.dst v).tmps.getD (ks.getD i 0) undef) w'; rw [hput]; exact hv
   ·unfold gR; rw [if_pos rfl]; show Ts ((a.put o.dst v).tmps.getD (ks.getD i 0) undef) w'; rw [hput]; exact hv
  ·cases ha : af i with
   | false =>
    have hLs : L s = false := by
     cases hq : L s with
     | false => rfl
     | true =>
      have h1 := List.all_eq_true.1 hga i (List.mem_range.2 hil)
      rw [if_neg (by rw [ha]; decide)] at h1
      have := zA2 (L := L) hI.closed ops.size [s] (fun j hj => by simp at hj; rw [hj]; exact hq) i (List.contains_iff_mem.1 h1)
      rw [this] at hL; cases hL
    have hg : G w := by have := hI.g; simpa [ge, hLs] using this
    refine wpOp_mono ?_ (step L i o a w his ha hi hI hg (hdeps hLs))
    rintro a' w' ⟨v, rfl, hv, he, hb⟩
    refine ⟨v, rfl, ?_, by simpa [ge, hLs, Ne.symm his] using he, ?_⟩
    ·unfold gT; rw [if_neg (by rw [ha]; simp [his])]; left; show Tb i ((a.put o.dst v).tmps.getD (ks.getD i 0) undef) w'; rw [hput]; exact hv
    ·unfold gR; rw [if_neg his]; exact hb
   | true =>
    have h1 := List.all_eq_true.1 hga i (List.mem_range.2 hil)
    rw [if_pos ha, hi] at h1
    have hLs : L s = true := hd s (List.contains_iff_mem.1 h1)
    have hE : E w := by have := hI.g; simpa [ge, hLs] using this
    refine wpOp_mono ?_ (after L i o a w ha hi hI hE (fun j hj hq => ?_))
    ·rintro a' w' ⟨v, rfl, hv, he, hb⟩
     refine ⟨v, rfl, ?_, by simpa [ge, hLs] using he, ?_⟩
     ·unfold gT; rw [if_pos (.inr ha)]; show Ts ((a.put o.dst v).tmps.getD (ks.getD i 0) undef) w'; rw [hput]; exact hv
     ·unfold gR; rw [if_neg his]; exact hb
    ·have hLj := hd j (List.contains_iff_mem.1 hj)
     cases hoj : ops[j]? with
     | none =>
      exfalso
      have h2 := List.all_eq_true.1 hac i (List.mem_range.2 hil)
      rw [hi] at h2
      have h3 := List.all_eq_true.1 h2 j (List.contains_iff_mem.1 hj)
      simp at h3
      simp at hoj
      omega
     | some oj =>
      have hT := hI.told j oj hoj hLj
      unfold gT at hT
      rw [if_pos hq] at hT
      exact hT
 ·intro a w hI
  refine done a w hI (by simpa [ge] using hI.g) (fun j o hj hq => ?_)
  have hT := hI.told j o hj rfl
  unfold gT at hT
  rw [if_pos hq] at hT
  exact hT
end
end Go.Proofs.YtamldhflkfbdnaaGreatDoor.Reg
namespace Go.Proofs.YtamldhflkfbdnaaGreatDoor.Mem
open Go.ChangeShapes Go.WideShapes Go.RowKit Base Num Slc Slf Rw Tmr Reg

theorem zGw (l : List M3) (k : Nat) : zCh l (k + 1) = (zCh l k && fits l k) := by
 simp [zCh, List.range_succ, List.all_append]
theorem zJ4 {l : List M3} {k n : Nat} (hk : k < n) (h : fits l k = false) : zCh l n = false := by
 simp only [zCh]
 rw [List.all_eq_false]
 exact ⟨k, List.mem_range.2 hk, by simp [h]⟩
structure Gi (w : World) (v : Value) (l : List M3) (W : World) : Prop where
 sl : SlF fM W v l
 bel : Below w.heap.size w W
theorem Gi.below {w W W' : World} {v : Value} {l : List M3} (h : Gi w v l W) (hb : Below W.heap.size W W') : Gi w v l W' := ⟨h.sl.below hb, zD h.bel hb⟩
theorem Gi.drew {w W : World} {v : Value} {l : List M3} (h : Gi w v l W) : Gi w v l W.drew := h.below (xC (n := 1) rfl)
set_option maxRecDepth 20000 in
set_option maxHeartbeats 1000000 in
theorem xU (v : Value) (l : List M3) (w : World) (h : SlF fM w v l) :
  Calls Tryz.prog 21 #[v] w fun e w' => e = .returned (.bool (qH l)) ∧ Below w.heap.size w w' := by
 by_cases h0 : 0 < l.length
 ·obtain ⟨b, off, c, rfl, hbl, hlc, hcm⟩ := h.shape h0
  unfold maxLen at hcm
  have hG : Gi w (.slice (some ⟨b, off, none⟩) l.length c) l w := ⟨h, Below.refl _ _⟩
  clear h hbl
  go_enter Tryz.func21, Tryz.ntmps21
  go_wp2_with fail
  go_loopw [3] (fun i wr => ∃ k : Nat, k ≤ l.length ∧ i = .int .i64 k ∧ zCh l k = true ∧ Gi w (.slice (some ⟨b, off, none⟩) l.length c) l wr) (fun i _ => l.length - (intOf i).toNat)
  case atStart => exact ⟨0, Nat.zero_le _, rfl, rfl, hG⟩
  case round =>
   clear hG
   obtain ⟨k, hk, rfl, hft, hG⟩ := hrel
   by_cases hlt' : k < l.length
   ·cases hok : (M3.at' l k).ok
    ·have HF : Hid (qH l = false) := show _ = _ by unfold qH; rw [zJ4 hlt' (by unfold fits; rw [hok]; rfl)]; rfl
     go_wp2_with fail
     refine qD (by kernel_rfl) (by kernel_rfl) 0 (by decide) (by kernel_rfl) (fun _ W => Gi w (.slice (some ⟨b, off, none⟩) l.length c) l W) [.slice (some ⟨b, off, none⟩) l.length c, .int .i64 (k : Int), .pointer (some ⟨b, off + k * 3, none⟩), (M3.at' l k).val, .bool false, .bool true, .bool true, undef, undef, undef, undef, undef, undef, undef, undef, undef, undef, undef, undef, undef, undef, .bool true] hG.drew ?step ?done
     case step =>
      intro L ix o' A W hj hI hL hd
      have hin : ix < 22 := qB hj
      have hsz : A.tmps.size = 35 := hI.size
      have hg := hI.g
      rcases ix with _ | _ | _ | _ | _ | _ | _ | _ | _ | _ | _ | _ | _ | _ | _ | _ | _ | _ | _ | _ | _ | _ | ix
      ·cases hj; exact am rfl rfl rfl (kv (hI.ol 0 rfl) hg)
      ·cases hj; exact am rfl rfl rfl (kv (hI.ol 3 rfl) hg)
      ·cases hj; exact zC rfl rfl (xQ okM rfl (hI.vl hd 0 rfl) (hI.vl hd 1 rfl) (by omega) (kk hg))
      ·cases hj; exact zC rfl rfl (jD okM rfl (hI.vl hd 2 rfl) (hg.sl.range okM (qM (by omega))) (kk hg))
      ·cases hj; have e0 := hI.vl hd 3 rfl
       refine zC rfl rfl (zS rfl Tryz.func76 (by kernel_rfl) (by kernel_rfl) ?_)
       simp only [List.map_cons, List.map_nil, e0]
       refine (zAh _ _).mono ?_
       rw [hok]
       rintro e W1 ⟨rfl, hb⟩
       exact ⟨_, rfl, _, rfl, rfl, hg.below hb⟩
      ·cases hj; exact zC rfl rfl (zH (hI.vl hd 4 rfl) rfl (by kernel_rfl) (kk hg))
      ·cases hj; exact am rfl rfl rfl (kv (hI.vl hd 5 rfl) hg)
      ·cases hj; exact ak rfl rfl (hI.vl hd 6 rfl) (kk hg)
      ·cases hj; exact ak rfl rfl (hI.vl hd 6 rfl) (kk hg)
      ·cases hj; exact ak rfl rfl (hI.vl hd 6 rfl) (kk hg)
      ·cases hj; have hgv : A.tmps.getD 19 undef = undef := hI.vl hd 9 rfl; exact zBp rfl rfl (j := 9) (k := 19) rfl (by rw [hgv]; simp [undef]) (kk hg)
      ·cases hj; have hgv : A.tmps.getD 19 undef = undef := hI.vl hd 9 rfl; exact zBp rfl rfl (j := 9) (k := 19) rfl (by rw [hgv]; simp [undef]) (kk hg)
      ·cases hj; have hgv : A.tmps.getD 19 undef = undef := hI.vl hd 9 rfl; exact zBp rfl rfl (j := 9) (k := 19) rfl (by rw [hgv]; simp [undef]) (kk hg)
      ·cases hj; have hgv : A.tmps.getD 19 undef = undef := hI.vl hd 9 rfl; exact zBp rfl rfl (j := 9) (k := 19) rfl (by rw [hgv]; simp [undef]) (kk hg)
      ·cases hj; have hgv : A.tmps.getD 19 undef = undef := hI.vl hd 9 rfl; exact zBp rfl rfl (j := 9) (k := 19) rfl (by rw [hgv]; simp [undef]) (kk hg)
      ·cases hj; have hgv : A.tmps.getD 19 undef = undef := hI.vl hd 9 rfl; exact zBp rfl rfl (j := 9) (k := 19) rfl (by rw [hgv]; simp [undef]) (kk hg)
      ·cases hj; have hgv : A.tmps.getD 19 undef = undef := hI.vl hd 9 rfl; exact zBp rfl rfl (j := 9) (k := 19) rfl (by rw [hgv]; simp [undef]) (kk hg)
      ·cases hj; have hgv : A.tmps.getD 19 undef = undef := hI.vl hd 9 rfl; exact zBp rfl rfl (j := 9) (k := 19) rfl (by rw [hgv]; simp [undef]) (kk hg)
      ·cases hj; have hgv : A.tmps.getD 19 undef = undef := hI.vl hd 9 rfl; exact zBp rfl rfl (j := 9) (k := 19) rfl (by rw [hgv]; simp [undef]) (kk hg)
      ·cases hj; have hgv : A.tmps.getD 19 undef = undef := hI.vl hd 9 rfl; exact zBp rfl rfl (j := 9) (k := 19) rfl (by rw [hgv]; simp [undef]) (kk hg)
      ·cases hj; exact ak rfl rfl (hI.vl hd 6 rfl) (kk hg)
      ·cases hj; have e1 := hI.vl hd 20 rfl; exact zC rfl rfl (xH rfl (hI.vl hd 6 rfl) (kk hg))
      omega
     case done =>
      intro A W hI
      have hg := hI.g
      have s31 := hI.ls 21 rfl rfl
      have hA := hI.frame [10, 11, 12, 13, 14, 15, 16, 17, 18, 19, 20, 21, 22, 23, 24, 25, 26, 27, 28, 29, 30, 31] (by kernel_rfl)
      rw [hA]
      simp only [qJ, List.foldl_cons, List.foldl_nil, s31, Act.put, List.setIfInBounds_toArray, List.set_cons_zero, List.set_cons_succ]
      clear hA hI s31
      go_wp2
      go_ret
      exact ⟨zT (by rw [HF.out]), hg.bel⟩
    ·by_cases hk0 : 0 < k
     ·cases hlt : later (M3.at' l (k - 1)) (M3.at' l k)
      ·have HF : Hid (zCh l (k + 1) = true) := show _ = _ by rw [zGw, hft]; unfold fits; rw [hok, hlt]; simp
       go_wp2_with fail
       refine qD (by kernel_rfl) (by kernel_rfl) 0 (by decide) (by kernel_rfl) (fun _ W => Gi w (.slice (some ⟨b, off, none⟩) l.length c) l W) [.slice (some ⟨b, off, none⟩) l.length c, .int .i64 (k : Int), .pointer (some ⟨b, off + k * 3, none⟩), (M3.at' l k).val, .bool true, .bool false, .bool false, .int .i64 (k : Int), .bool true, .bool true, .slice (some ⟨b, off, none⟩) l.length c, .int .i64 (k : Int), .int .i64 ((k - 1 : Nat) : Int), .pointer (some ⟨b, off + (k - 1) * 3, none⟩), (M3.at' l (k - 1)).val, .slice (some ⟨b, off, none⟩) l.length c, .int .i64 (k : Int), .pointer (some ⟨b, off + k * 3, none⟩), (M3.at' l k).val, .bool false, .bool false, .bool false] hG.drew ?step ?done
       case step =>
        intro L ix o' A W hj hI hL hd
        have hin : ix < 22 := qB hj
        have hsz : A.tmps.size = 35 := hI.size
        have hg := hI.g
        rcases ix with _ | _ | _ | _ | _ | _ | _ | _ | _ | _ | _ | _ | _ | _ | _ | _ | _ | _ | _ | _ | _ | _ | ix
        ·cases hj; exact am rfl rfl rfl (kv (hI.ol 0 rfl) hg)
        ·cases hj; exact am rfl rfl rfl (kv (hI.ol 3 rfl) hg)
        ·cases hj; exact zC rfl rfl (xQ okM rfl (hI.vl hd 0 rfl) (hI.vl hd 1 rfl) (by omega) (kk hg))
        ·cases hj; exact zC rfl rfl (jD okM rfl (hI.vl hd 2 rfl) (hg.sl.range okM (qM (by omega))) (kk hg))
        ·cases hj; have e0 := hI.vl hd 3 rfl
         refine zC rfl rfl (zS rfl Tryz.func76 (by kernel_rfl) (by kernel_rfl) ?_)
         simp only [List.map_cons, List.map_nil, e0]
         refine (zAh _ _).mono ?_
         rw [hok]
         rintro e W1 ⟨rfl, hb⟩
         exact ⟨_, rfl, _, rfl, rfl, hg.below hb⟩
        ·cases hj; exact zC rfl rfl (zH (hI.vl hd 4 rfl) rfl (by kernel_rfl) (kk hg))
        ·cases hj; exact am rfl rfl rfl (kv (hI.vl hd 5 rfl) hg)
        ·cases hj; exact ag rfl rfl (hI.vl hd 6 rfl) (qR rfl (kv (hI.ol 3 rfl) hg))
        ·cases hj; exact ag rfl rfl (hI.vl hd 6 rfl) (qP (vy := .int .i64 0) rfl (hI.vl hd 7 rfl) rfl (fun w => by simp [go_sem] <;> omega) (kk hg))
        ·cases hj; exact ag rfl rfl (hI.vl hd 6 rfl) (qR rfl (kv (hI.vl hd 8 rfl) hg))
        ·cases hj; exact ag rfl rfl (hI.vl hd 9 rfl) (qR rfl (kv (hI.ol 0 rfl) hg))
        ·cases hj; exact ag rfl rfl (hI.vl hd 9 rfl) (qR rfl (kv (hI.ol 3 rfl) hg))
        ·cases hj; exact ag rfl rfl (hI.vl hd 9 rfl) (qP (vy := .int .i64 1) rfl (hI.vl hd 11 rfl) rfl (fun w => by rw [show ((k - 1 : Nat) : Int) = (k : Int) - 1 from by omega]; exact subN _ _ _ _ w (by omega) (by omega)) (kk hg))
        ·cases hj; exact ag rfl rfl (hI.vl hd 9 rfl) (xQ okM rfl (hI.vl hd 10 rfl) (hI.vl hd 12 rfl) (by omega) (kk hg))
        ·cases hj; exact ag rfl rfl (hI.vl hd 9 rfl) (jD okM rfl (hI.vl hd 13 rfl) (hg.sl.range okM (qM (by omega))) (kk hg))
        ·cases hj; exact ag rfl rfl (hI.vl hd 9 rfl) (qR rfl (kv (hI.ol 0 rfl) hg))
        ·cases hj; exact ag rfl rfl (hI.vl hd 9 rfl) (qR rfl (kv (hI.ol 3 rfl) hg))
        ·cases hj; exact ag rfl rfl (hI.vl hd 9 rfl) (xQ okM rfl (hI.vl hd 15 rfl) (hI.vl hd 16 rfl) (by omega) (kk hg))
        ·cases hj; exact ag rfl rfl (hI.vl hd 9 rfl) (jD okM rfl (hI.vl hd 17 rfl) (hg.sl.range okM (qM (by omega))) (kk hg))
        ·cases hj; have hgv : A.tmps.getD 19 undef = .bool true := hI.vl hd 9 rfl
         have e0 := hI.vl hd 14 rfl
         have e1 := hI.vl hd 18 rfl
         refine ag rfl rfl hgv (zS rfl Tryz.func81 (by kernel_rfl) (by kernel_rfl) ?_)
         simp only [List.map_cons, List.map_nil, e0, e1]
         refine (zB6 _ _ _).mono ?_
         rw [hlt]
         rintro e W1 ⟨rfl, hb⟩
         exact ⟨_, rfl, _, rfl, rfl, hg.below hb⟩
        ·cases hj; exact ag rfl rfl (hI.vl hd 6 rfl) (xH rfl (hI.vl hd 9 rfl) (kv ((hI.vl hd 19 rfl)) hg))
        ·cases hj; exact zC rfl rfl (xH rfl (hI.vl hd 6 rfl) (kv ((hI.vl hd 20 rfl)) hg))
        omega
       case done =>
        intro A W hI
        have hg := hI.g
        have s31 := hI.ls 21 rfl rfl
        have hA := hI.frame [10, 11, 12, 13, 14, 15, 16, 17, 18, 19, 20, 21, 22, 23, 24, 25, 26, 27, 28, 29, 30, 31] (by kernel_rfl)
        rw [hA]
        simp only [qJ, List.foldl_cons, List.foldl_nil, s31, Act.put, List.setIfInBounds_toArray, List.set_cons_zero, List.set_cons_succ]
        clear hA hI s31
        go_wp2
        go_roundw
        case rel => exact ⟨k + 1, by omega, by go_num, HF.out, hg⟩
        case measure => simp [intOf]; omega
      ·have HF : Hid (qH l = false) := show _ = _ by unfold qH; rw [zJ4 hlt' (by unfold fits; rw [hok, hlt]; simp [hk0])]; rfl
       go_wp2_with fail
       refine qD (by kernel_rfl) (by kernel_rfl) 0 (by decide) (by kernel_rfl) (fun _ W => Gi w (.slice (some ⟨b, off, none⟩) l.length c) l W) [.slice (some ⟨b, off, none⟩) l.length c, .int .i64 (k : Int), .pointer (some ⟨b, off + k * 3, none⟩), (M3.at' l k).val, .bool true, .bool false, .bool false, .int .i64 (k : Int), .bool true, .bool true, .slice (some ⟨b, off, none⟩) l.length c, .int .i64 (k : Int), .int .i64 ((k - 1 : Nat) : Int), .pointer (some ⟨b, off + (k - 1) * 3, none⟩), (M3.at' l (k - 1)).val, .slice (some ⟨b, off, none⟩) l.length c, .int .i64 (k : Int), .pointer (some ⟨b, off + k * 3, none⟩), (M3.at' l k).val, .bool true, .bool true, .bool true] hG.drew ?step ?done
       case step =>
        intro L ix o' A W hj hI hL hd
        have hin : ix < 22 := qB hj
        have hsz : A.tmps.size = 35 := hI.size
        have hg := hI.g
        rcases ix with _ | _ | _ | _ | _ | _ | _ | _ | _ | _ | _ | _ | _ | _ | _ | _ | _ | _ | _ | _ | _ | _ | ix
        ·cases hj; exact am rfl rfl rfl (kv (hI.ol 0 rfl) hg)
        ·cases hj; exact am rfl rfl rfl (kv (hI.ol 3 rfl) hg)
        ·cases hj; exact zC rfl rfl (xQ okM rfl (hI.vl hd 0 rfl) (hI.vl hd 1 rfl) (by omega) (kk hg))
        ·cases hj; exact zC rfl rfl (jD okM rfl (hI.vl hd 2 rfl) (hg.sl.range okM (qM (by omega))) (kk hg))
        ·cases hj; have e0 := hI.vl hd 3 rfl
         refine zC rfl rfl (zS rfl Tryz.func76 (by kernel_rfl) (by kernel_rfl) ?_)
         simp only [List.map_cons, List.map_nil, e0]
         refine (zAh _ _).mono ?_
         rw [hok]
         rintro e W1 ⟨rfl, hb⟩
         exact ⟨_, rfl, _, rfl, rfl, hg.below hb⟩
        ·cases hj; exact zC rfl rfl (zH (hI.vl hd 4 rfl) rfl (by kernel_rfl) (kk hg))
        ·cases hj; exact am rfl rfl rfl (kv (hI.vl hd 5 rfl) hg)
        ·cases hj; exact ag rfl rfl (hI.vl hd 6 rfl) (qR rfl (kv (hI.ol 3 rfl) hg))
        ·cases hj; exact ag rfl rfl (hI.vl hd 6 rfl) (qP (vy := .int .i64 0) rfl (hI.vl hd 7 rfl) rfl (fun w => by simp [go_sem] <;> omega) (kk hg))
        ·cases hj; exact ag rfl rfl (hI.vl hd 6 rfl) (qR rfl (kv (hI.vl hd 8 rfl) hg))
        ·cases hj; exact ag rfl rfl (hI.vl hd 9 rfl) (qR rfl (kv (hI.ol 0 rfl) hg))
        ·cases hj; exact ag rfl rfl (hI.vl hd 9 rfl) (qR rfl (kv (hI.ol 3 rfl) hg))
        ·cases hj; exact ag rfl rfl (hI.vl hd 9 rfl) (qP (vy := .int .i64 1) rfl (hI.vl hd 11 rfl) rfl (fun w => by rw [show ((k - 1 : Nat) : Int) = (k : Int) - 1 from by omega]; exact subN _ _ _ _ w (by omega) (by omega)) (kk hg))
        ·cases hj; exact ag rfl rfl (hI.vl hd 9 rfl) (xQ okM rfl (hI.vl hd 10 rfl) (hI.vl hd 12 rfl) (by omega) (kk hg))
        ·cases hj; exact ag rfl rfl (hI.vl hd 9 rfl) (jD okM rfl (hI.vl hd 13 rfl) (hg.sl.range okM (qM (by omega))) (kk hg))
        ·cases hj; exact ag rfl rfl (hI.vl hd 9 rfl) (qR rfl (kv (hI.ol 0 rfl) hg))
        ·cases hj; exact ag rfl rfl (hI.vl hd 9 rfl) (qR rfl (kv (hI.ol 3 rfl) hg))
        ·cases hj; exact ag rfl rfl (hI.vl hd 9 rfl) (xQ okM rfl (hI.vl hd 15 rfl) (hI.vl hd 16 rfl) (by omega) (kk hg))
        ·cases hj; exact ag rfl rfl (hI.vl hd 9 rfl) (jD okM rfl (hI.vl hd 17 rfl) (hg.sl.range okM (qM (by omega))) (kk hg))
        ·cases hj; have hgv : A.tmps.getD 19 undef = .bool true := hI.vl hd 9 rfl
         have e0 := hI.vl hd 14 rfl
         have e1 := hI.vl hd 18 rfl
         refine ag rfl rfl hgv (zS rfl Tryz.func81 (by kernel_rfl) (by kernel_rfl) ?_)
         simp only [List.map_cons, List.map_nil, e0, e1]
         refine (zB6 _ _ _).mono ?_
         rw [hlt]
         rintro e W1 ⟨rfl, hb⟩
         exact ⟨_, rfl, _, rfl, rfl, hg.below hb⟩
        ·cases hj; exact ag rfl rfl (hI.vl hd 6 rfl) (xH rfl (hI.vl hd 9 rfl) (kv ((hI.vl hd 19 rfl)) hg))
        ·cases hj; exact zC rfl rfl (xH rfl (hI.vl hd 6 rfl) (kv ((hI.vl hd 20 rfl)) hg))
        omega
       case done =>
        intro A W hI
        have hg := hI.g
        have s31 := hI.ls 21 rfl rfl
        have hA := hI.frame [10, 11, 12, 13, 14, 15, 16, 17, 18, 19, 20, 21, 22, 23, 24, 25, 26, 27, 28, 29, 30, 31] (by kernel_rfl)
        rw [hA]
        simp only [qJ, List.foldl_cons, List.foldl_nil, s31, Act.put, List.setIfInBounds_toArray, List.set_cons_zero, List.set_cons_succ]
        clear hA hI s31
        go_wp2
        go_ret
        exact ⟨zT (by rw [HF.out]), hg.bel⟩
     ·have HF : Hid (zCh l (k + 1) = true) := show _ = _ by rw [zGw, hft]; unfold fits; rw [hok]; simp [hk0]
      go_wp2_with fail
      refine qD (by kernel_rfl) (by kernel_rfl) 0 (by decide) (by kernel_rfl) (fun _ W => Gi w (.slice (some ⟨b, off, none⟩) l.length c) l W) [.slice (some ⟨b, off, none⟩) l.length c, .int .i64 (k : Int), .pointer (some ⟨b, off + k * 3, none⟩), (M3.at' l k).val, .bool true, .bool false, .bool false, .int .i64 (k : Int), .bool false, .bool false, undef, undef, undef, undef, undef, undef, undef, undef, undef, undef, .bool false, .bool false] hG.drew ?step ?done
      case step =>
       intro L ix o' A W hj hI hL hd
       have hin : ix < 22 := qB hj
       have hsz : A.tmps.size = 35 := hI.size
       have hg := hI.g
       rcases ix with _ | _ | _ | _ | _ | _ | _ | _ | _ | _ | _ | _ | _ | _ | _ | _ | _ | _ | _ | _ | _ | _ | ix
       ·cases hj; exact am rfl rfl rfl (kv (hI.ol 0 rfl) hg)
       ·cases hj; exact am rfl rfl rfl (kv (hI.ol 3 rfl) hg)
       ·cases hj; exact zC rfl rfl (xQ okM rfl (hI.vl hd 0 rfl) (hI.vl hd 1 rfl) (by omega) (kk hg))
       ·cases hj; exact zC rfl rfl (jD okM rfl (hI.vl hd 2 rfl) (hg.sl.range okM (qM (by omega))) (kk hg))
       ·cases hj; have e0 := hI.vl hd 3 rfl
        refine zC rfl rfl (zS rfl Tryz.func76 (by kernel_rfl) (by kernel_rfl) ?_)
        simp only [List.map_cons, List.map_nil, e0]
        refine (zAh _ _).mono ?_
        rw [hok]
        rintro e W1 ⟨rfl, hb⟩
        exact ⟨_, rfl, _, rfl, rfl, hg.below hb⟩
       ·cases hj; exact zC rfl rfl (zH (hI.vl hd 4 rfl) rfl (by kernel_rfl) (kk hg))
       ·cases hj; exact am rfl rfl rfl (kv (hI.vl hd 5 rfl) hg)
       ·cases hj; exact ag rfl rfl (hI.vl hd 6 rfl) (qR rfl (kv (hI.ol 3 rfl) hg))
       ·cases hj; exact ag rfl rfl (hI.vl hd 6 rfl) (qP (vy := .int .i64 0) rfl (hI.vl hd 7 rfl) rfl (fun w => by simp [go_sem] <;> omega) (kk hg))
       ·cases hj; exact ag rfl rfl (hI.vl hd 6 rfl) (qR rfl (kv (hI.vl hd 8 rfl) hg))
       ·cases hj; exact ak rfl rfl (hI.vl hd 9 rfl) (kk hg)
       ·cases hj; exact ak rfl rfl (hI.vl hd 9 rfl) (kk hg)
       ·cases hj; exact ak rfl rfl (hI.vl hd 9 rfl) (kk hg)
       ·cases hj; exact ak rfl rfl (hI.vl hd 9 rfl) (kk hg)
       ·cases hj; exact ak rfl rfl (hI.vl hd 9 rfl) (kk hg)
       ·cases hj; exact ak rfl rfl (hI.vl hd 9 rfl) (kk hg)
       ·cases hj; exact ak rfl rfl (hI.vl hd 9 rfl) (kk hg)
       ·cases hj; exact ak rfl rfl (hI.vl hd 9 rfl) (kk hg)
       ·cases hj; exact ak rfl rfl (hI.vl hd 9 rfl) (kk hg)
       ·cases hj; exact ak rfl rfl (hI.vl hd 9 rfl) (kk hg)
       ·cases hj; have e1 := hI.vl hd 19 rfl; exact ag rfl rfl (hI.vl hd 6 rfl) (xH rfl (hI.vl hd 9 rfl) (kk hg))
       ·cases hj; exact zC rfl rfl (xH rfl (hI.vl hd 6 rfl) (kv ((hI.vl hd 20 rfl)) hg))
       omega
      case done =>
       intro A W hI
       have hg := hI.g
       have s31 := hI.ls 21 rfl rfl
       have hA := hI.frame [10, 11, 12, 13, 14, 15, 16, 17, 18, 19, 20, 21, 22, 23, 24, 25, 26, 27, 28, 29, 30, 31] (by kernel_rfl)
       rw [hA]
       simp only [qJ, List.foldl_cons, List.foldl_nil, s31, Act.put, List.setIfInBounds_toArray, List.set_cons_zero, List.set_cons_succ]
       clear hA hI s31
       go_wp2
       go_roundw
       case rel => exact ⟨k + 1, by omega, by go_num, HF.out, hg⟩
       case measure => simp [intOf]; omega
   ·have hk' : k = l.length := by omega
    have HF : Hid (qH l = decide (l.length ≤ 200)) := show _ = _ by unfold qH; rw [← hk', hft]; rfl
    have hbel := hG.bel
    go_wp2
    go_ret
    exact ⟨zT (by rw [HF.out]; simp <;> omega), hbel⟩
 ·obtain ⟨a, cap, rfl, h1⟩ := h
  have hl : l = [] := List.eq_nil_of_length_eq_zero (by omega)
  subst hl
  go_enter Tryz.func21, Tryz.ntmps21
  go_wp2_with fail
  go_loopw [3] (fun i wr => i = .int .i64 0 ∧ wr = w) (fun i _ => 0)
  case atStart => exact ⟨rfl, rfl⟩
  case round =>
   obtain ⟨rfl, rfl⟩ := hrel
   go_wp2
   go_ret
   exact ⟨rfl, Below.refl _ _⟩
structure Gw (w : World) (v : Value) (l : List M3) (m : M3) (W : World) : Prop where
 sl : SlF fM W v l
 row : jQ W w.heap.size m
 bel : Below w.heap.size w W
theorem Gw.below {w W W' : World} {v : Value} {l : List M3} {m : M3} (h : Gw w v l m W) (hb : Below W.heap.size W W') : Gw w v l m W' := ⟨h.sl.below hb, h.row.below hb, zD h.bel hb⟩
theorem Gw.drew {w W : World} {v : Value} {l : List M3} {m : M3} (h : Gw w v l m W) : Gw w v l m W.drew := h.below (xC (n := 1) rfl)
theorem zBt (v : Value) (l : List M3) (w : World) (h : SlF fM w v l) (hl : l.length ≤ 10000000) :
  Calls Tryz.prog 77 #[v] w fun e w' => ∃ v', e = .returned v' ∧ OwnF fM w.heap.size w' v' l ∧ Below w.heap.size w w' := by
 have ho0 := xO fM okM w.heap.size w #[] [] rfl (by decide) (Nat.le_refl _)
 have hs0 := h.below ((Below.refl w.heap.size w).alloc (Nat.le_refl _) (.cells #[] 40))
 go_enter Tryz.func77, Tryz.ntmps77
 go_wp2_with (at_builtin; refine appF okM rfl (.tmp 3) (.tmp 4) rfl w.heap.size [] l ho0 hs0 (by simp; omega) (by simp) ?_; intro v1 w1 ho1 hg1)
 go_ret
 exact ⟨_, rfl, by simpa using ho1, ((Below.refl w.heap.size w).alloc (Nat.le_refl _) _).grown hg1 (by simp) (fun k hk => by have hk' : some w.heap.size = some k := hk; cases hk'; exact Nat.le_refl _)⟩
def Tw (base : Nat) (v0 v2 : Value) (k : Int) (l : List M3) (m : M3) (j : Nat) (v : Value) (W : World) : Prop :=
 if j = 0 then v = v0
 else if j = 1 then v = .int .i64 k
 else if j = 2 then v = v2
 else if j = 3 then OwnF fM base W v l
 else if j = 4 then v = m.val
 else if j = 5 then SlF fM W v [m]
 else True
theorem Tw.below {base : Nat} {v0 v2 : Value} {k : Int} {l : List M3} {m : M3} {j : Nat} {v : Value} {W W' : World} (h : Tw base v0 v2 k l m j v W) (hb : Below W.heap.size W W') : Tw base v0 v2 k l m j v W' := by
 rcases j with _ | _ | _ | _ | _ | _ | j
 ·exact h
 ·exact h
 ·exact h
 ·exact OwnF.below (show OwnF fM base W v l from h) hb
 ·exact h
 ·exact SlF.below (show SlF fM W v [m] from h) hb
 ·simp [Tw]
theorem zF4 {α : Type} {f : Fl α} {base : Nat} {W : World} {l : List α} : ¬ OwnF f base W undef l := fun h => by
 rcases h.2 with ⟨e, _⟩ | ⟨_, _, _, e, _⟩
 ·cases e
 ·cases e
theorem zMq (e : M3) : Instr.fill (fun i => some (i * fM.n, fM.n)) ((Array.range (1 * fM.n)).map ((Value.agg (fM.F fM.z).toArray).cells[· % (Value.agg (fM.F fM.z).toArray).cells.size]!)) [(0, .agg (fM.F e).toArray)] = some (fM.F e).toArray := by kernel_rfl
theorem zGr (v : Value) (l : List M3) (m : M3) (w : World) (h : SlF fM w v l) (hl : l.length ≤ 1000000) :
  Calls Tryz.prog 78 #[v, m.val] w fun e w' => ∃ v', e = .returned v' ∧ OwnF fM w.heap.size w' v' (zBc l m) ∧ Below w.heap.size w w' := by
 by_cases h0 : 0 < l.length
 ·obtain ⟨b, off, c, rfl, hbl, hlc, hcm⟩ := h.shape h0
  unfold maxLen at hcm
  obtain ⟨vv, hvv⟩ : ∃ vv, vv = m.val := ⟨_, rfl⟩
  rw [← hvv]
  go_enter Tryz.func78, Tryz.ntmps78
  go_wp2_with (refine xD rfl rfl hvv ?_; intro w0 r0 hB0; have hG : Gw w (.slice (some ⟨b, off, none⟩) l.length c) l m w0 := ⟨h.below hB0, r0, hB0⟩; clear r0 hB0)
  go_loopw [5] (fun i wr => ∃ k : Nat, k ≤ l.length ∧ i = .int .i64 k ∧ jO l m l.length = jO l m k ∧ Gw w (.slice (some ⟨b, off, none⟩) l.length c) l m wr) (fun i _ => (intOf i).toNat)
  case atStart => exact ⟨l.length, Nat.le_refl _, rfl, rfl, hG⟩
  case round =>
   clear hG
   obtain ⟨k, hk, rfl, hin, hG⟩ := hrel
   have HI : Hid (jO l m l.length = jO l m k) := hin
   clear hin
   by_cases hk0 : 0 < k
   ·cases hlt : later (M3.at' l (k - 1)) m
    ·have HK : Hid (jO l m l.length = k) := show _ = _ by
      rw [HI.out]
      obtain ⟨j, rfl⟩ : ∃ j, k = j + 1 := ⟨k - 1, by omega⟩
      simp only [Nat.add_sub_cancel] at hlt
      simp [jO, hlt]
     go_wp2_with fail
     refine qD (by kernel_rfl) (by kernel_rfl) 0 (by decide) (by kernel_rfl) (fun _ W => Gw w (.slice (some ⟨b, off, none⟩) l.length c) l m W) [.int .i64 (k : Int), .bool true, .bool true, .slice (some ⟨b, off, none⟩) l.length c, .int .i64 (k : Int), .int .i64 ((k - 1 : Nat) : Int), .pointer (some ⟨b, off + (k - 1) * 3, none⟩), (M3.at' l (k - 1)).val, m.val, .bool false, .bool false] hG.drew ?step ?done
     case step =>
      intro L ix o' A W hj hI hL hd
      have hin : ix < 11 := qB hj
      have hsz : A.tmps.size = 34 := hI.size
      have hg := hI.g
      rcases ix with _ | _ | _ | _ | _ | _ | _ | _ | _ | _ | _ | ix
      ·cases hj; exact am rfl rfl rfl (kv (hI.ol 5 rfl) hg)
      ·cases hj; exact zC rfl rfl (qP (vy := .int .i64 0) rfl (hI.vl hd 0 rfl) rfl (fun w => by simp [go_sem] <;> omega) (kk hg))
      ·cases hj; exact am rfl rfl rfl (kv (hI.vl hd 1 rfl) hg)
      ·cases hj; exact ag rfl rfl (hI.vl hd 2 rfl) (qR rfl (kv (hI.ol 0 rfl) hg))
      ·cases hj; exact ag rfl rfl (hI.vl hd 2 rfl) (qR rfl (kv (hI.ol 5 rfl) hg))
      ·cases hj; exact ag rfl rfl (hI.vl hd 2 rfl) (qP (vy := .int .i64 1) rfl (hI.vl hd 4 rfl) rfl (fun w => by rw [show ((k - 1 : Nat) : Int) = (k : Int) - 1 from by omega]; exact subN _ _ _ _ w (by omega) (by omega)) (kk hg))
      ·cases hj; exact ag rfl rfl (hI.vl hd 2 rfl) (xQ okM rfl (hI.vl hd 3 rfl) (hI.vl hd 5 rfl) (by omega) (kk hg))
      ·cases hj; exact ag rfl rfl (hI.vl hd 2 rfl) (jD okM rfl (hI.vl hd 6 rfl) (hg.sl.range okM (qM (by omega))) (kk hg))
      ·cases hj; exact ag rfl rfl (hI.vl hd 2 rfl) (wp_load_row _ _ rfl _ (hI.ol 3 rfl) _ _ _ _ hg.row.row Tryz.underlying40 rfl jJ (kk hg))
      ·cases hj; have hgv : A.tmps.getD 11 undef = .bool true := hI.vl hd 2 rfl
       have e0 := hI.vl hd 7 rfl
       have e1 := hI.vl hd 8 rfl
       refine ag rfl rfl hgv (zS rfl Tryz.func81 (by kernel_rfl) (by kernel_rfl) ?_)
       simp only [List.map_cons, List.map_nil, e0, e1]
       refine (zB6 _ _ _).mono ?_
       rw [hlt]
       rintro e W1 ⟨rfl, hb⟩
       exact ⟨_, rfl, _, rfl, rfl, hg.below hb⟩
      ·cases hj; exact zC rfl rfl (xH rfl (hI.vl hd 2 rfl) (kv ((hI.vl hd 9 rfl)) hg))
      omega
     case done =>
      intro A W hI
      have hg := hI.g
      have s19 := hI.ls 10 rfl rfl
      have hA := hI.frame [9, 10, 11, 12, 13, 14, 15, 16, 17, 18, 19] (by kernel_rfl)
      rw [hA]
      simp only [qJ, List.foldl_cons, List.foldl_nil, s19, Act.put, List.setIfInBounds_toArray, List.set_cons_zero, List.set_cons_succ]
      clear hA hI s19
      have hkl : k ≤ l.length := hk
      go_wp2_with fail
      refine zC1 (by kernel_rfl) (by kernel_rfl) 6 (by decide) [22, 23, 24, 25, 26, 27, 28, 6] (by kernel_rfl) (fun i => i == 7) (by kernel_rfl) (by kernel_rfl) (fun W => Gw w (.slice (some ⟨b, off, none⟩) l.length c) l m W) (fun W => Gi w (.slice (some ⟨b, off, none⟩) l.length c) l W)
       (Tw (w.heap.size + 1) (.slice (some ⟨b, off, none⟩) l.length c) (.slice (some ⟨b, off, none⟩) k c) (k : Int) (l.take k) m) (fun v W => OwnF fM (w.heap.size + 1) W v (l.take k ++ [m])) (fun j v W W' h hb => h.below hb) (fun v W W' h hb => h.below hb) hg.drew (fun W => zF4) ?step ?gather ?after ?done
      case step =>
       intro L ix o A W hne ha hj hI hg hd
       have hin : ix < 8 := qB hj
       have hsz : A.tmps.size = 34 := hI.size
       have hbel := hg.bel.size
       have hrl := hg.row.lt
       rcases ix with _ | _ | _ | _ | _ | _ | _ | _ | ix
       ·cases hj; exact am rfl rfl rfl (kv (hI.ol 0 rfl) ⟨hg, bl⟩)
       ·cases hj; exact am rfl rfl rfl (kv (hI.ol 5 rfl) ⟨hg, bl⟩)
       ·cases hj; have e0 : A.eval (.tmp 22) = .slice (some ⟨b, off, none⟩) l.length c := hd 0 (by kernel_rfl)
        have e1 : A.eval (.tmp 23) = .int .i64 (k : Int) := hd 1 (by kernel_rfl)
        exact zC rfl rfl (zM6 okM rfl e0 e1 (by omega) (by omega) (kk ⟨hg, bl⟩))
       ·cases hj; have e0 : A.eval (.tmp 24) = .slice (some ⟨b, off, none⟩) k c := hd 2 (by kernel_rfl)
        refine zC rfl rfl (zS rfl Tryz.func77 (by kernel_rfl) (by kernel_rfl) ?_)
        simp only [List.map_cons, List.map_nil, e0]
        refine (zBt _ (l.take k) _ (hg.sl.take okM k (by omega)) (by simp; omega)).mono ?_
        rintro e W1 ⟨v1, rfl, ho1, hb1⟩
        exact ⟨_, rfl, _, rfl, ho1.mono (by omega), hg.below hb1, hb1⟩
       ·cases hj; exact zC rfl rfl (wp_load_row _ _ rfl _ (hI.ol 3 rfl) _ _ _ _ hg.row.row Tryz.underlying40 rfl jJ (kk ⟨hg, bl⟩))
       ·cases hj; have e0 : A.eval (.tmp 26) = m.val := hd 4 (by kernel_rfl)
        refine zC rfl rfl (zFh okM (e := m) rfl e0 (zMq m) (fun W1 ho1 hb1 => ⟨_, rfl, ?_, hg.below hb1, hb1⟩))
        exact ho1.sl okM
       ·exact absurd rfl hne
       ·simp at ha
       omega
      case gather =>
       intro L o A W hj hI hg hd
       cases hj
       have hbel := hg.bel.size
       have hrl := hg.row.lt
       have e0 : OwnF fM (w.heap.size + 1) W (A.eval (.tmp 25)) (l.take k) := hd 3 (by kernel_rfl)
       have e1 : SlF fM W (A.eval (.tmp 27)) [m] := hd 5 (by kernel_rfl)
       refine zC rfl rfl (zK3 okM (w.heap.size + 1) (l.take k) [m] rfl e0 e1 (by simp) (by simp; omega) (by omega) (fun v' W1 ho1 hg1 => ⟨_, rfl, ho1, ?_⟩))
       exact ⟨hg.sl.grown hg1 (fun h1 q hq e => by have := (e0.lt q hq).1; have e' : some b = some q := e; cases e'; omega), hg.bel.grown hg1 (by omega) (fun q hq => by have := (e0.lt q hq).1; omega)⟩
      case after =>
       intro L ix o A W ha hj hI hE hd
       obtain rfl : ix = 7 := by simpa using ha
       cases hj
       have e0 : OwnF fM (w.heap.size + 1) W (A.eval (.tmp 28)) (l.take k ++ [m]) := hd 6 (by kernel_rfl) (.inl rfl)
       exact zC rfl rfl (qC rfl ⟨_, rfl, e0, hE, Below.refl _ _⟩)
      case done =>
       intro A W hI hE hT
       have h6 : OwnF fM (w.heap.size + 1) W (A.tmps.getD 6 undef) (l.take k ++ [m]) := hT 7 _ rfl (.inr rfl)
       have hA := hI.frame [22, 23, 24, 25, 26, 27, 28, 6] (by kernel_rfl)
       rw [hA]
       obtain ⟨v6, hv6⟩ : ∃ v6, A.tmps.getD 6 undef = v6 := ⟨_, rfl⟩
       rw [hv6] at h6
       simp only [qJ, List.foldl_cons, List.foldl_nil, hv6, Act.put, List.setIfInBounds_toArray, List.set_cons_zero, List.set_cons_succ]
       clear hA hI hT hv6 hg
       have hbel := hE.bel.size
       have hs := hE.sl
       go_wp2_with (first
        | (refine zUw okM rfl rfl rfl rfl hkl hs ?_; intro v7 hv7)
        | (at_builtin; refine appF okM rfl (.tmp 29) (.tmp 32) rfl (w.heap.size + 1) (l.take k ++ [m]) (l.drop k) h6 hv7 (by simp; omega) (by have := (h6.block (by simp)); obtain ⟨q, _, _, q1, q2, _⟩ := this; omega) ?_; intro v8 w8 ho8 hg8))
       go_ret
       exact ⟨_, rfl, by unfold zBc; rw [HK.out]; exact ho8.mono (by omega), hE.bel.grown hg8 (by omega) (fun q hq => by have := (h6.lt q hq).1; omega)⟩
    ·have HK : Hid (jO l m l.length = jO l m (k - 1)) := show _ = _ by
      rw [HI.out]
      obtain ⟨j, rfl⟩ : ∃ j, k = j + 1 := ⟨k - 1, by omega⟩
      simp only [Nat.add_sub_cancel] at hlt ⊢
      simp [jO, hlt]
     go_wp2_with fail
     refine qD (by kernel_rfl) (by kernel_rfl) 0 (by decide) (by kernel_rfl) (fun _ W => Gw w (.slice (some ⟨b, off, none⟩) l.length c) l m W) [.int .i64 (k : Int), .bool true, .bool true, .slice (some ⟨b, off, none⟩) l.length c, .int .i64 (k : Int), .int .i64 ((k - 1 : Nat) : Int), .pointer (some ⟨b, off + (k - 1) * 3, none⟩), (M3.at' l (k - 1)).val, m.val, .bool true, .bool true] hG.drew ?step ?done
     case step =>
      intro L ix o' A W hj hI hL hd
      have hin : ix < 11 := qB hj
      have hsz : A.tmps.size = 34 := hI.size
      have hg := hI.g
      rcases ix with _ | _ | _ | _ | _ | _ | _ | _ | _ | _ | _ | ix
      ·cases hj; exact am rfl rfl rfl (kv (hI.ol 5 rfl) hg)
      ·cases hj; exact zC rfl rfl (qP (vy := .int .i64 0) rfl (hI.vl hd 0 rfl) rfl (fun w => by simp [go_sem] <;> omega) (kk hg))
      ·cases hj; exact am rfl rfl rfl (kv (hI.vl hd 1 rfl) hg)
      ·cases hj; exact ag rfl rfl (hI.vl hd 2 rfl) (qR rfl (kv (hI.ol 0 rfl) hg))
      ·cases hj; exact ag rfl rfl (hI.vl hd 2 rfl) (qR rfl (kv (hI.ol 5 rfl) hg))
      ·cases hj; exact ag rfl rfl (hI.vl hd 2 rfl) (qP (vy := .int .i64 1) rfl (hI.vl hd 4 rfl) rfl (fun w => by rw [show ((k - 1 : Nat) : Int) = (k : Int) - 1 from by omega]; exact subN _ _ _ _ w (by omega) (by omega)) (kk hg))
      ·cases hj; exact ag rfl rfl (hI.vl hd 2 rfl) (xQ okM rfl (hI.vl hd 3 rfl) (hI.vl hd 5 rfl) (by omega) (kk hg))
      ·cases hj; exact ag rfl rfl (hI.vl hd 2 rfl) (jD okM rfl (hI.vl hd 6 rfl) (hg.sl.range okM (qM (by omega))) (kk hg))
      ·cases hj; exact ag rfl rfl (hI.vl hd 2 rfl) (wp_load_row _ _ rfl _ (hI.ol 3 rfl) _ _ _ _ hg.row.row Tryz.underlying40 rfl jJ (kk hg))
      ·cases hj; have hgv : A.tmps.getD 11 undef = .bool true := hI.vl hd 2 rfl
       have e0 := hI.vl hd 7 rfl
       have e1 := hI.vl hd 8 rfl
       refine ag rfl rfl hgv (zS rfl Tryz.func81 (by kernel_rfl) (by kernel_rfl) ?_)
       simp only [List.map_cons, List.map_nil, e0, e1]
       refine (zB6 _ _ _).mono ?_
       rw [hlt]
       rintro e W1 ⟨rfl, hb⟩
       exact ⟨_, rfl, _, rfl, rfl, hg.below hb⟩
      ·cases hj; exact zC rfl rfl (xH rfl (hI.vl hd 2 rfl) (kv ((hI.vl hd 9 rfl)) hg))
      omega
     case done =>
      intro A W hI
      have hg := hI.g
      have s19 := hI.ls 10 rfl rfl
      have hA := hI.frame [9, 10, 11, 12, 13, 14, 15, 16, 17, 18, 19] (by kernel_rfl)
      rw [hA]
      simp only [qJ, List.foldl_cons, List.foldl_nil, s19, Act.put, List.setIfInBounds_toArray, List.set_cons_zero, List.set_cons_succ]
      clear hA hI s19
      go_wp2
      go_roundw
      case rel => exact ⟨k - 1, by omega, by go_num, HK.out, hg⟩
      case measure => simp [intOf]; omega
   ·have HK : Hid (jO l m l.length = k) := show _ = _ by
     rw [HI.out]
     obtain rfl : k = 0 := by omega
     rfl
    go_wp2_with fail
    refine qD (by kernel_rfl) (by kernel_rfl) 0 (by decide) (by kernel_rfl) (fun _ W => Gw w (.slice (some ⟨b, off, none⟩) l.length c) l m W) [.int .i64 (k : Int), .bool false, .bool false, undef, undef, undef, undef, undef, undef, undef, .bool false] hG.drew ?step ?done
    case step =>
     intro L ix o' A W hj hI hL hd
     have hin : ix < 11 := qB hj
     have hsz : A.tmps.size = 34 := hI.size
     have hg := hI.g
     rcases ix with _ | _ | _ | _ | _ | _ | _ | _ | _ | _ | _ | ix
     ·cases hj; exact am rfl rfl rfl (kv (hI.ol 5 rfl) hg)
     ·cases hj; exact zC rfl rfl (qP (vy := .int .i64 0) rfl (hI.vl hd 0 rfl) rfl (fun w => by simp [go_sem] <;> omega) (kk hg))
     ·cases hj; exact am rfl rfl rfl (kv (hI.vl hd 1 rfl) hg)
     ·cases hj; exact ak rfl rfl (hI.vl hd 2 rfl) (kk hg)
     ·cases hj; exact ak rfl rfl (hI.vl hd 2 rfl) (kk hg)
     ·cases hj; exact ak rfl rfl (hI.vl hd 2 rfl) (kk hg)
     ·cases hj; exact ak rfl rfl (hI.vl hd 2 rfl) (kk hg)
     ·cases hj; exact ak rfl rfl (hI.vl hd 2 rfl) (kk hg)
     ·cases hj; exact ak rfl rfl (hI.vl hd 2 rfl) (kk hg)
     ·cases hj; exact ak rfl rfl (hI.vl hd 2 rfl) (kk hg)
     ·cases hj; have e1 := hI.vl hd 9 rfl; exact zC rfl rfl (xH rfl (hI.vl hd 2 rfl) (kk hg))
     omega
    case done =>
     intro A W hI
     have hg := hI.g
     have s19 := hI.ls 10 rfl rfl
     have hA := hI.frame [9, 10, 11, 12, 13, 14, 15, 16, 17, 18, 19] (by kernel_rfl)
     rw [hA]
     simp only [qJ, List.foldl_cons, List.foldl_nil, s19, Act.put, List.setIfInBounds_toArray, List.set_cons_zero, List.set_cons_succ]
     clear hA hI s19
     have hkl : k ≤ l.length := hk
     clear hk0
     go_wp2_with fail
     refine zC1 (by kernel_rfl) (by kernel_rfl) 6 (by decide) [22, 23, 24, 25, 26, 27, 28, 6] (by kernel_rfl) (fun i => i == 7) (by kernel_rfl) (by kernel_rfl) (fun W => Gw w (.slice (some ⟨b, off, none⟩) l.length c) l m W) (fun W => Gi w (.slice (some ⟨b, off, none⟩) l.length c) l W)
      (Tw (w.heap.size + 1) (.slice (some ⟨b, off, none⟩) l.length c) (.slice (some ⟨b, off, none⟩) k c) (k : Int) (l.take k) m) (fun v W => OwnF fM (w.heap.size + 1) W v (l.take k ++ [m])) (fun j v W W' h hb => h.below hb) (fun v W W' h hb => h.below hb) hg.drew (fun W => zF4) ?step ?gather ?after ?done
     case step =>
      intro L ix o A W hne ha hj hI hg hd
      have hin : ix < 8 := qB hj
      have hsz : A.tmps.size = 34 := hI.size
      have hbel := hg.bel.size
      have hrl := hg.row.lt
      rcases ix with _ | _ | _ | _ | _ | _ | _ | _ | ix
      ·cases hj; exact am rfl rfl rfl (kv (hI.ol 0 rfl) ⟨hg, bl⟩)
      ·cases hj; exact am rfl rfl rfl (kv (hI.ol 5 rfl) ⟨hg, bl⟩)
      ·cases hj; have e0 : A.eval (.tmp 22) = .slice (some ⟨b, off, none⟩) l.length c := hd 0 (by kernel_rfl)
       have e1 : A.eval (.tmp 23) = .int .i64 (k : Int) := hd 1 (by kernel_rfl)
       exact zC rfl rfl (zM6 okM rfl e0 e1 (by omega) (by omega) (kk ⟨hg, bl⟩))
      ·cases hj; have e0 : A.eval (.tmp 24) = .slice (some ⟨b, off, none⟩) k c := hd 2 (by kernel_rfl)
       refine zC rfl rfl (zS rfl Tryz.func77 (by kernel_rfl) (by kernel_rfl) ?_)
       simp only [List.map_cons, List.map_nil, e0]
       refine (zBt _ (l.take k) _ (hg.sl.take okM k (by omega)) (by simp; omega)).mono ?_
       rintro e W1 ⟨v1, rfl, ho1, hb1⟩
       exact ⟨_, rfl, _, rfl, ho1.mono (by omega), hg.below hb1, hb1⟩
      ·cases hj; exact zC rfl rfl (wp_load_row _ _ rfl _ (hI.ol 3 rfl) _ _ _ _ hg.row.row Tryz.underlying40 rfl jJ (kk ⟨hg, bl⟩))
      ·cases hj; have e0 : A.eval (.tmp 26) = m.val := hd 4 (by kernel_rfl)
       refine zC rfl rfl (zFh okM (e := m) rfl e0 (zMq m) (fun W1 ho1 hb1 => ⟨_, rfl, ?_, hg.below hb1, hb1⟩))
       exact ho1.sl okM
      ·exact absurd rfl hne
      ·simp at ha
      omega
     case gather =>
      intro L o A W hj hI hg hd
      cases hj
      have hbel := hg.bel.size
      have hrl := hg.row.lt
      have e0 : OwnF fM (w.heap.size + 1) W (A.eval (.tmp 25)) (l.take k) := hd 3 (by kernel_rfl)
      have e1 : SlF fM W (A.eval (.tmp 27)) [m] := hd 5 (by kernel_rfl)
      refine zC rfl rfl (zK3 okM (w.heap.size + 1) (l.take k) [m] rfl e0 e1 (by simp) (by simp; omega) (by omega) (fun v' W1 ho1 hg1 => ⟨_, rfl, ho1, ?_⟩))
      exact ⟨hg.sl.grown hg1 (fun h1 q hq e => by have := (e0.lt q hq).1; have e' : some b = some q := e; cases e'; omega), hg.bel.grown hg1 (by omega) (fun q hq => by have := (e0.lt q hq).1; omega)⟩
     case after =>
      intro L ix o A W ha hj hI hE hd
      obtain rfl : ix = 7 := by simpa using ha
      cases hj
      have e0 : OwnF fM (w.heap.size + 1) W (A.eval (.tmp 28)) (l.take k ++ [m]) := hd 6 (by kernel_rfl) (.inl rfl)
      exact zC rfl rfl (qC rfl ⟨_, rfl, e0, hE, Below.refl _ _⟩)
     case done =>
      intro A W hI hE hT
      have h6 : OwnF fM (w.heap.size + 1) W (A.tmps.getD 6 undef) (l.take k ++ [m]) := hT 7 _ rfl (.inr rfl)
      have hA := hI.frame [22, 23, 24, 25, 26, 27, 28, 6] (by kernel_rfl)
      rw [hA]
      obtain ⟨v6, hv6⟩ : ∃ v6, A.tmps.getD 6 undef = v6 := ⟨_, rfl⟩
      rw [hv6] at h6
      simp only [qJ, List.foldl_cons, List.foldl_nil, hv6, Act.put, List.setIfInBounds_toArray, List.set_cons_zero, List.set_cons_succ]
      clear hA hI hT hv6 hg
      have hbel := hE.bel.size
      have hs := hE.sl
      go_wp2_with (first
       | (refine zUw okM rfl rfl rfl rfl hkl hs ?_; intro v7 hv7)
       | (at_builtin; refine appF okM rfl (.tmp 29) (.tmp 32) rfl (w.heap.size + 1) (l.take k ++ [m]) (l.drop k) h6 hv7 (by simp; omega) (by have := (h6.block (by simp)); obtain ⟨q, _, _, q1, q2, _⟩ := this; omega) ?_; intro v8 w8 ho8 hg8))
      go_ret
      exact ⟨_, rfl, by unfold zBc; rw [HK.out]; exact ho8.mono (by omega), hE.bel.grown hg8 (by omega) (fun q hq => by have := (h6.lt q hq).1; omega)⟩
 ·obtain ⟨a, cap, rfl, h1, h2, h3, h4⟩ := id h
  obtain rfl : l = [] := List.eq_nil_of_length_eq_zero (by omega)
  have hcap : a = none → cap = 0 := fun e => (h4 e).2
  obtain ⟨vv, hvv⟩ : ∃ vv, vv = m.val := ⟨_, rfl⟩
  rw [← hvv]
  clear h1 h2 h3 h4 h0
  go_enter Tryz.func78, Tryz.ntmps78
  go_wp2_with (refine xD rfl rfl hvv ?_; intro w0 r0 hB0; have hG : Gw w (.slice a 0 cap) [] m w0 := ⟨h.below hB0, r0, hB0⟩; clear r0 hB0)
  go_loopw [5] (fun i wr => i = .int .i64 0 ∧ Gw w (.slice a 0 cap) [] m wr) (fun i _ => 0)
  case atStart => exact ⟨rfl, hG⟩
  case round =>
   clear hG
   obtain ⟨rfl, hg⟩ := hrel
   go_wp2_with fail
   refine qD (by kernel_rfl) (by kernel_rfl) 0 (by decide) (by kernel_rfl) (fun _ W => Gw w (.slice a 0 cap) [] m W) [.int .i64 0, .bool false, .bool false, undef, undef, undef, undef, undef, undef, undef, .bool false] hg.drew ?step ?done
   case step =>
    intro L ix o' A W hj hI hL hd
    have hin : ix < 11 := qB hj
    have hsz : A.tmps.size = 34 := hI.size
    have hg := hI.g
    rcases ix with _ | _ | _ | _ | _ | _ | _ | _ | _ | _ | _ | ix
    ·cases hj; exact am rfl rfl rfl (kv (hI.ol 5 rfl) hg)
    ·cases hj; exact zC rfl rfl (qP (vy := .int .i64 0) rfl (hI.vl hd 0 rfl) rfl (fun w => by simp [go_sem]) (kk hg))
    ·cases hj; exact am rfl rfl rfl (kv (hI.vl hd 1 rfl) hg)
    ·cases hj; exact ak rfl rfl (hI.vl hd 2 rfl) (kk hg)
    ·cases hj; exact ak rfl rfl (hI.vl hd 2 rfl) (kk hg)
    ·cases hj; exact ak rfl rfl (hI.vl hd 2 rfl) (kk hg)
    ·cases hj; exact ak rfl rfl (hI.vl hd 2 rfl) (kk hg)
    ·cases hj; exact ak rfl rfl (hI.vl hd 2 rfl) (kk hg)
    ·cases hj; exact ak rfl rfl (hI.vl hd 2 rfl) (kk hg)
    ·cases hj; exact ak rfl rfl (hI.vl hd 2 rfl) (kk hg)
    ·cases hj; have e1 := hI.vl hd 9 rfl; exact zC rfl rfl (xH rfl (hI.vl hd 2 rfl) (kk hg))
    omega
   case done =>
    intro A W hI
    have hg := hI.g
    have s19 := hI.ls 10 rfl rfl
    have hA := hI.frame [9, 10, 11, 12, 13, 14, 15, 16, 17, 18, 19] (by kernel_rfl)
    rw [hA]
    simp only [qJ, List.foldl_cons, List.foldl_nil, s19, Act.put, List.setIfInBounds_toArray, List.set_cons_zero, List.set_cons_succ]
    clear hA hI s19
    go_wp2_with fail
    refine zC1 (by kernel_rfl) (by kernel_rfl) 6 (by decide) [22, 23, 24, 25, 26, 27, 28, 6] (by kernel_rfl) (fun i => i == 7) (by kernel_rfl) (by kernel_rfl) (fun W => Gw w (.slice a 0 cap) [] m W) (fun W => Gi w (.slice a 0 cap) [] W)
     (Tw (w.heap.size + 1) (.slice a 0 cap) (.slice a 0 cap) 0 [] m) (fun v W => OwnF fM (w.heap.size + 1) W v ([] ++ [m])) (fun j v W W' h hb => h.below hb) (fun v W W' h hb => h.below hb) hg.drew (fun W => zF4) ?step ?gather ?after ?done
    case step =>
     intro L ix o A W hne ha hj hI hg hd
     have hin : ix < 8 := qB hj
     have hsz : A.tmps.size = 34 := hI.size
     have hbel := hg.bel.size
     have hrl := hg.row.lt
     rcases ix with _ | _ | _ | _ | _ | _ | _ | _ | ix
     ·cases hj; exact am rfl rfl rfl (kv (hI.ol 0 rfl) ⟨hg, bl⟩)
     ·cases hj; exact am rfl rfl rfl (kv (hI.ol 5 rfl) ⟨hg, bl⟩)
     ·cases hj; have e0 : A.eval (.tmp 22) = .slice a 0 cap := hd 0 (by kernel_rfl)
      have e1 : A.eval (.tmp 23) = .int .i64 0 := hd 1 (by kernel_rfl)
      exact zC rfl rfl (zQk okM hcap rfl e0 e1 (kk ⟨hg, bl⟩))
     ·cases hj; have e0 : A.eval (.tmp 24) = .slice a 0 cap := hd 2 (by kernel_rfl)
      refine zC rfl rfl (zS rfl Tryz.func77 (by kernel_rfl) (by kernel_rfl) ?_)
      simp only [List.map_cons, List.map_nil, e0]
      refine (zBt _ [] _ hg.sl (by simp)).mono ?_
      rintro e W1 ⟨v1, rfl, ho1, hb1⟩
      exact ⟨_, rfl, _, rfl, ho1.mono (by omega), hg.below hb1, hb1⟩
     ·cases hj; exact zC rfl rfl (wp_load_row _ _ rfl _ (hI.ol 3 rfl) _ _ _ _ hg.row.row Tryz.underlying40 rfl jJ (kk ⟨hg, bl⟩))
     ·cases hj; have e0 : A.eval (.tmp 26) = m.val := hd 4 (by kernel_rfl)
      refine zC rfl rfl (zFh okM (e := m) rfl e0 (zMq m) (fun W1 ho1 hb1 => ⟨_, rfl, ?_, hg.below hb1, hb1⟩))
      exact ho1.sl okM
     ·exact absurd rfl hne
     ·simp at ha
     omega
    case gather =>
     intro L o A W hj hI hg hd
     cases hj
     have hbel := hg.bel.size
     have hrl := hg.row.lt
     have e0 : OwnF fM (w.heap.size + 1) W (A.eval (.tmp 25)) [] := hd 3 (by kernel_rfl)
     have e1 : SlF fM W (A.eval (.tmp 27)) [m] := hd 5 (by kernel_rfl)
     refine zC rfl rfl (zK3 okM (w.heap.size + 1) [] [m] rfl e0 e1 (by simp) (by simp) (by omega) (fun v' W1 ho1 hg1 => ⟨_, rfl, ho1, ?_⟩))
     exact ⟨hg.sl.grown hg1 (fun h1 q hq e => by have := (e0.lt q hq).1; simp at h1), hg.bel.grown hg1 (by omega) (fun q hq => by have := (e0.lt q hq).1; omega)⟩
    case after =>
     intro L ix o A W ha hj hI hE hd
     obtain rfl : ix = 7 := by simpa using ha
     cases hj
     have e0 : OwnF fM (w.heap.size + 1) W (A.eval (.tmp 28)) ([] ++ [m]) := hd 6 (by kernel_rfl) (.inl rfl)
     exact zC rfl rfl (qC rfl ⟨_, rfl, e0, hE, Below.refl _ _⟩)
    case done =>
     intro A W hI hE hT
     have h6 : OwnF fM (w.heap.size + 1) W (A.tmps.getD 6 undef) ([] ++ [m]) := hT 7 _ rfl (.inr rfl)
     have hA := hI.frame [22, 23, 24, 25, 26, 27, 28, 6] (by kernel_rfl)
     rw [hA]
     obtain ⟨v6, hv6⟩ : ∃ v6, A.tmps.getD 6 undef = v6 := ⟨_, rfl⟩
     rw [hv6] at h6
     simp only [qJ, List.foldl_cons, List.foldl_nil, hv6, Act.put, List.setIfInBounds_toArray, List.set_cons_zero, List.set_cons_succ]
     clear hA hI hT hv6 hg
     have hbel := hE.bel.size
     have hs := hE.sl
     go_wp2_with (first
      | (refine wpList_plain rfl fun K hK => zMm okM hcap rfl rfl rfl (hK _ _ ?_))
      | (at_builtin; refine appF okM rfl (.tmp 29) (.tmp 32) rfl (w.heap.size + 1) ([] ++ [m]) [] h6 hs (by simp) (by have := (h6.block (by simp)); obtain ⟨q, _, _, q1, q2, _⟩ := this; omega) ?_; intro v8 w8 ho8 hg8))
     go_ret
     exact ⟨_, rfl, by have : zBc [] m = [] ++ [m] ++ [] := rfl; rw [this]; exact ho8.mono (by omega), hE.bel.grown hg8 (by omega) (fun q hq => by have := (h6.lt q hq).1; omega)⟩
end Go.Proofs.YtamldhflkfbdnaaGreatDoor.Mem
namespace Go.Proofs.YtamldhflkfbdnaaGreatDoor.Ex
open Go.ChangeShapes Go.WideShapes Go.RowKit Base Slc

theorem zOt {l1 l2 : List Int} {k : Nat} (h : l1.take k = l2.take k) (h1 : k < l1.length) (h2 : k < l2.length) (hz : l1.getD k 0 = l2.getD k 0) : l1.take (k + 1) = l2.take (k + 1) := by
 rw [getD_take h1, getD_take h2, h, hz]
end Go.Proofs.YtamldhflkfbdnaaGreatDoor.Ex
namespace Go.Proofs.YtamldhflkfbdnaaGreatDoor.Mem
open Go.ChangeShapes Go.WideShapes Go.RowKit Base Num Slc Slf Rw Tmr Reg Ex

structure Gii (f : Fl M3) (w : World) (v u : Value) (l : List M3) (W : World) : Prop where
 sl : SlF f W v l
 su : SlF f W u l
 bel : Below w.heap.size w W
theorem Gii.below {f : Fl M3} {w W W' : World} {v u : Value} {l : List M3} (h : Gii f w v u l W) (hb : Below W.heap.size W W') : Gii f w v u l W' := ⟨h.sl.below hb, h.su.below hb, zD h.bel hb⟩
theorem Gii.drew {f : Fl M3} {w W : World} {v u : Value} {l : List M3} (h : Gii f w v u l W) : Gii f w v u l W.drew := h.below (xC (n := 1) rfl)
end Go.Proofs.YtamldhflkfbdnaaGreatDoor.Mem
namespace Go.Proofs.YtamldhflkfbdnaaGreatDoor.Rom
open Go.ChangeShapes Go.WideShapes Go.RowKit Base Slc Num

theorem zC3 (l : List Int) (k : Nat) (h : k < l.length) : (l.take (k + 1)).all bok = ((l.take k).all bok && bok (l.getD k 0)) := by
 rw [getD_take h]; simp
theorem zJ9 (l : List Int) (k : Nat) (h : k < l.length) (hb : bok (l.getD k 0) = false) : l.all bok = false := by
 rw [List.all_eq_false]
 refine ⟨l[k], List.getElem_mem h, ?_⟩
 rw [List.getD_eq_getElem?_getD, List.getElem?_eq_getElem h] at hb
 simpa using hb

theorem zCk (a : Option Addr) (len cap : Nat) (l : List Int) (w : World) (hl : xM w a len l) (hm : len ≤ maxLen) :
  Calls Tryz.prog 145 #[.slice a len cap] w fun e w' => e = .returned (.bool (l.all bok)) ∧ w' = w := by
 unfold maxLen at hm
 obtain ⟨hlen, hc⟩ := hl
 go_enter Tryz.func145, Tryz.ntmps145
 go_wp2
 go_loop [3] (fun i => ∃ k : Nat, k ≤ len ∧ i = .int .i64 k ∧ (l.take k).all bok = true) (fun i => len - (intOf i).toNat)
 case atStart => exact ⟨0, Nat.zero_le _, rfl, by simp⟩
 case round =>
  obtain ⟨k, hk, rfl, hall⟩ := hrel
  have HA : Hid ((l.take k).all bok = true) := hall
  clear hall
  by_cases hlt : k < len
  ·rcases hc with h0 | ⟨b, off, rfl, hb, hcell⟩
   ·omega
   ·have hz := hcell k hlt
    clear hcell
    obtain ⟨z, hzz⟩ : ∃ z, z = l.getD k 0 := ⟨_, rfl⟩
    rw [← hzz] at hz
    have HZ : Hid (z = l.getD k 0) := hzz
    clear hzz
    by_cases hbk : bok z = true
    ·go_wp2_with (go_at_call 146; refine (xB _ _).mono ?_; rintro e w' ⟨rfl, rfl⟩)
     go_round
     case rel => exact ⟨k + 1, by omega, by go_num, by rw [zC3 l k (by omega), HA.out, ← HZ.out, hbk]; rfl⟩
     case measure => simp [intOf]; omega
    ·have hbk' : bok z = false := by simpa using hbk
     clear hbk
     go_wp2_with (go_at_call 146; refine (xB _ _).mono ?_; rintro e w' ⟨rfl, rfl⟩)
     go_ret
     exact ⟨zT (zJ9 l k (by omega) (by rw [← HZ.out]; exact hbk')).symm, rfl⟩
  ·go_wp2
   go_ret
   have e : l.take k = l := List.take_of_length_le (by omega)
   have h := HA.out
   rw [e] at h
   exact ⟨zT h.symm, rfl⟩

theorem zE4 (a : Option Addr) (len cap : Nat) (l : List Int) (w : World) (hl : xM w a len l) (hm : len ≤ maxLen) :
  Calls Tryz.prog 83 #[.slice a len cap] w fun e w' => e = .returned (.bool (l.all bok)) ∧ w' = w := by
 unfold maxLen at hm
 obtain ⟨hlen, hc⟩ := hl
 go_enter Tryz.func83, Tryz.ntmps83
 go_wp2
 go_loop [7] (fun i => ∃ k : Nat, k ≤ len ∧ i = .int .i64 k ∧ (l.take k).all bok = true) (fun i => len - (intOf i).toNat)
 case atStart => exact ⟨0, Nat.zero_le _, rfl, by simp⟩
 case round =>
  obtain ⟨k, hk, rfl, hall⟩ := hrel
  have HA : Hid ((l.take k).all bok = true) := hall
  clear hall
  by_cases hlt : k < len
  ·rcases hc with h0 | ⟨b, off, rfl, hb, hcell⟩
   ·omega
   ·have hz := hcell k hlt
    clear hcell
    obtain ⟨z, hzz⟩ : ∃ z, z = l.getD k 0 := ⟨_, rfl⟩
    rw [← hzz] at hz
    have HZ : Hid (z = l.getD k 0) := hzz
    clear hzz
    by_cases hbk : bok z = true
    ·go_wp2_with (go_at_call 84; refine (qL _ _).mono ?_; rintro e w' ⟨rfl, rfl⟩)
     go_round
     case rel => exact ⟨k + 1, by omega, by go_num, by rw [zC3 l k (by omega), HA.out, ← HZ.out, hbk]; rfl⟩
     case measure => simp [intOf]; omega
    ·have hbk' : bok z = false := by simpa using hbk
     clear hbk
     go_wp2_with (go_at_call 84; refine (qL _ _).mono ?_; rintro e w' ⟨rfl, rfl⟩)
     go_ret
     exact ⟨zT (zJ9 l k (by omega) (by rw [← HZ.out]; exact hbk')).symm, rfl⟩
  ·go_wp2
   go_ret
   have e : l.take k = l := List.take_of_length_le (by omega)
   have h := HA.out
   rw [e] at h
   exact ⟨zT h.symm, rfl⟩

def sumR (n : Int) (l : List Int) : Int := l.foldl (fun s x => (s + x) % 256) n
def chk (l : List Int) : Int := if l.all bok then sumR 25 l else -1
theorem zJk (n : Int) (l : List Int) (x : Int) : sumR n (l ++ [x]) = (sumR n l + x) % 256 := by simp [sumR]
theorem zKc (n : Int) (l : List Int) (hn : bok n = true) : bok (sumR n l) = true := by
 unfold sumR
 induction l generalizing n with
 | nil => exact hn
 | cons x l ih => exact ih _ (show bok ((n + x) % 256) = true from zIt (by omega) (by omega))
theorem zV0 (l : List Int) (h : l.all bok = true) : bok (chk l) = true := by
 unfold chk; rw [if_pos h]; exact zKc _ _ (by decide)
theorem zIz {l : List Int} (h : l.all bok = true) {k : Nat} (hk : k < l.length) : bok (l.getD k 0) = true := by
 rw [List.all_eq_true] at h
 rw [List.getD_eq_getElem?_getD, List.getElem?_eq_getElem hk]
 exact h _ (List.getElem_mem hk)

theorem zFp (a : Option Addr) (len cap : Nat) (l : List Int) (w : World) (hl : xM w a len l) (hm : len ≤ maxLen) :
  Calls Tryz.prog 89 #[.slice a len cap] w fun e w' => e = .returned (.int .i64 (chk l)) ∧ w' = w := by
 by_cases hall : l.all bok = true
 ·have HL : Hid (xM w a len l) := hl
  have HM : Hid (len ≤ maxLen) := hm
  have e1 : chk l = sumR 25 l := by simp [chk, hall]
  have HE : Hid (chk l = sumR 25 l) := e1
  unfold maxLen at hm
  obtain ⟨hlen, hc⟩ := hl
  clear e1
  go_enter Tryz.func89, Tryz.ntmps89
  go_wp2_with (go_at_call 145; refine (zCk _ _ _ _ _ HL.out HM.out).mono ?_; rintro e w' ⟨rfl, rfl⟩)
  go_loop [3, 4] (fun n i => ∃ k : Nat, k ≤ len ∧ i = .int .i64 k ∧ n = .int .i64 (sumR 25 (l.take k))) (fun _ i => len - (intOf i).toNat)
  case atStart => exact ⟨0, Nat.zero_le _, rfl, rfl⟩
  case round =>
   obtain ⟨k, hk, rfl, rfl⟩ := hrel
   obtain ⟨s, hs⟩ : ∃ s, s = sumR 25 (l.take k) := ⟨_, rfl⟩
   have hsb := xG (zKc 25 (l.take k) (by decide))
   rw [← hs] at hsb ⊢
   have HS : Hid (s = sumR 25 (l.take k)) := hs
   clear hs
   by_cases hlt : k < len
   ·rcases hc with h0 | ⟨b, off, rfl, hb, hcell⟩
    ·omega
    ·have hz := hcell k hlt
     have hzb := xG (zIz hall (k := k) (by omega))
     clear hcell
     obtain ⟨z, hzz⟩ : ∃ z, z = l.getD k 0 := ⟨_, rfl⟩
     rw [← hzz] at hz hzb
     have HZ : Hid (z = l.getD k 0) := hzz
     clear hzz
     go_wp2
     go_round
     case rel => exact ⟨k + 1, by omega, by go_num, by rw [getD_take (by omega), zJk, ← HZ.out, ← HS.out]⟩
     case measure => simp [intOf]; omega
   ·go_wp2
    go_ret
    exact ⟨vB (by rw [HE.out, HS.out, List.take_of_length_le (by omega)]), rfl⟩
 ·have hall' : l.all bok = false := by simpa using hall
  have e1 : chk l = -1 := by simp [chk, hall']
  rw [e1]
  go_enter Tryz.func89, Tryz.ntmps89
  go_wp2_with (go_at_call 145; refine (zCk _ _ _ _ _ hl hm).mono ?_; rintro e w' ⟨rfl, rfl⟩)
  go_ret
  exact ⟨rfl, rfl⟩

theorem zP8 {s z : Int} (hs : bok s = true) (hz : bok z = true) : addB s z = (s + z) % 256 := by simp [addB, hs, hz]
theorem zI3 (n : Int) (a : Option Addr) (len cap : Nat) (l : List Int) (w : World) (hl : xM w a len l) (hm : len ≤ maxLen) (hall : l.all bok = true) (hn : bok n = true) :
  Calls Tryz.prog 228 #[.int .i64 n, .slice a len cap] w fun e w' => e = .returned (.int .i64 (sumR n l)) ∧ w' = w := by
 unfold maxLen at hm
 obtain ⟨hlen, hc⟩ := hl
 go_enter Tryz.func228, Tryz.ntmps228
 go_wp2
 go_loop [5, 11] (fun s i => ∃ k : Nat, k ≤ len ∧ i = .int .i64 k ∧ s = .int .i64 (sumR n (l.take k))) (fun _ i => len - (intOf i).toNat)
 case atStart => exact ⟨0, Nat.zero_le _, rfl, rfl⟩
 case round =>
  obtain ⟨k, hk, rfl, rfl⟩ := hrel
  obtain ⟨s, hs⟩ : ∃ s, s = sumR n (l.take k) := ⟨_, rfl⟩
  have hsb := zKc n (l.take k) hn
  rw [← hs] at hsb ⊢
  have HS : Hid (s = sumR n (l.take k)) := hs
  clear hs
  by_cases hlt : k < len
  ·rcases hc with h0 | ⟨b, off, rfl, hb, hcell⟩
   ·omega
   ·have hz := hcell k hlt
    have hzb := zIz hall (k := k) (by omega)
    clear hcell
    obtain ⟨z, hzz⟩ : ∃ z, z = l.getD k 0 := ⟨_, rfl⟩
    rw [← hzz] at hz hzb
    have HZ : Hid (z = l.getD k 0) := hzz
    clear hzz
    go_wp2_with (go_at_call 246; refine (zAk _ _ _).mono ?_; rintro e w' ⟨rfl, rfl⟩)
    go_round
    case rel => exact ⟨k + 1, by omega, by go_num, by rw [getD_take (by omega), zJk, ← HZ.out, ← HS.out, ← zP8 hsb hzb]⟩
    case measure => simp [intOf]; omega
  ·go_wp2
   go_ret
   exact ⟨vB (by rw [HS.out, List.take_of_length_le (by omega)]), rfl⟩
theorem zK1 (a : Option Addr) (len cap : Nat) (l : List Int) (w : World) (hl : xM w a len l) (hm : len ≤ maxLen) :
  Calls Tryz.prog 163 #[.slice a len cap] w fun e w' => e = .returned (.int .i64 (chk l)) ∧ w' = w := by
 by_cases hall : l.all bok = true
 ·have e1 : chk l = sumR 25 l := by simp [chk, hall]
  rw [e1]
  go_enter Tryz.func163, Tryz.ntmps163
  go_wp2_with (first
   | (go_at_call 83; refine (zE4 _ _ _ _ _ hl hm).mono ?_; rintro e w' ⟨rfl, rfl⟩)
   | (go_at_call 228; refine (zI3 25 _ _ _ _ _ hl hm hall (by decide)).mono ?_; rintro e w' ⟨rfl, rfl⟩))
  go_ret
  exact ⟨rfl, rfl⟩
 ·have hall' : l.all bok = false := by simpa using hall
  have e1 : chk l = -1 := by simp [chk, hall']
  rw [e1]
  go_enter Tryz.func163, Tryz.ntmps163
  go_wp2_with (go_at_call 83; refine (zE4 _ _ _ _ _ hl hm).mono ?_; rintro e w' ⟨rfl, rfl⟩)
  go_ret
  exact ⟨rfl, rfl⟩

def xR (l : List Int) : Bool := decide (2 ≤ l.length) && decide (l.length ≤ 128) && l.all bok && (l.getD (l.length - 1) 0 == chk (l.take (l.length - 1)))
theorem zGk {l : List Int} (h : l.length < 2) : xR l = false := by unfold xR; rw [decide_eq_false (by omega)]; rfl
theorem zHs {l : List Int} (h : 128 < l.length) : xR l = false := by unfold xR; rw [decide_eq_false (p := l.length ≤ 128) (by omega)]; simp
theorem zDt {l : List Int} (h : l.all bok = false) : xR l = false := by unfold xR; rw [h]; simp
theorem zF2 {l : List Int} (h2 : 2 ≤ l.length) (h128 : l.length ≤ 128) (h : l.all bok = true) : xR l = (l.getD (l.length - 1) 0 == chk (l.take (l.length - 1))) := by
 unfold xR; rw [h, decide_eq_true h2, decide_eq_true h128]; simp
theorem zEv {l : List Int} (h : 0 < l.length) : l.all bok = ((l.take (l.length - 1)).all bok && bok (l.getD (l.length - 1) 0)) := by
 have := zC3 l (l.length - 1) (by omega)
 rw [← this, List.take_of_length_le (by omega)]
theorem zNd {l : List Int} (h : 0 < l.length) (hb : bok (l.getD (l.length - 1) 0) = false) : xR l = false := zDt (by rw [zEv h, hb]; simp)
theorem zI4 {l : List Int} (h2 : 2 ≤ l.length) (h128 : l.length ≤ 128) (hb : bok (l.getD (l.length - 1) 0) = true) : xR l = (l.getD (l.length - 1) 0 == chk (l.take (l.length - 1))) := by
 by_cases hall : (l.take (l.length - 1)).all bok = true
 ·exact zF2 h2 h128 (by rw [zEv (by omega), hall, hb]; rfl)
 ·have hall' : (l.take (l.length - 1)).all bok = false := by simpa using hall
  rw [zDt (by rw [zEv (by omega), hall']; rfl)]
  have e1 : chk (l.take (l.length - 1)) = -1 := by simp [chk, hall']
  have := xG hb
  rw [e1, beq_eq_false_iff_ne.mpr (by omega)]

theorem zNc (a : Option Addr) (len cap : Nat) (l : List Int) (w : World) (hl : xM w a len l) (hm : len ≤ cap) (hcm : cap ≤ maxLen) :
  Calls Tryz.prog 90 #[.slice a len cap] w fun e w' => e = .returned (.bool (xR l)) ∧ ∃ n, w' = w.drewN n := by
 have HL : Hid (xM w a len l) := hl
 have HM : Hid (len ≤ maxLen) := Nat.le_trans hm hcm
 unfold maxLen at hcm
 obtain ⟨hlen, hc⟩ := hl
 by_cases h2 : 2 ≤ len
 ·by_cases h128 : len ≤ 128
  ·by_cases hall : l.all bok = true
   ·rcases hc with h0 | ⟨b, off, rfl, hb, hcell⟩
    ·omega
    ·obtain ⟨m, hmm⟩ : ∃ m, m = len - 1 := ⟨_, rfl⟩
     have hz := hcell m (by omega)
     clear hcell
     obtain ⟨z, hzz⟩ : ∃ z, z = l.getD m 0 := ⟨_, rfl⟩
     rw [← hzz] at hz
     have HE : Hid (xR l = (z == chk (l.take m))) := by rw [hzz, hmm, ← hlen]; exact zF2 (by omega) (by omega) hall
     clear hzz
     have ht : xM w (some ⟨b, off, none⟩) m (l.take m) := HL.out.take _ (by omega)
     have HT : Hid (xM w (some ⟨b, off, none⟩) m (l.take m)) := ht
     have HTM : Hid (m ≤ maxLen) := by show m ≤ maxLen; unfold maxLen; omega
     have hml : m < len := by omega
     have hmi : (m : Int) < (len : Int) := by omega
     have hmc : m ≤ cap := by omega
     have hwr : IntKind.i64.wrap ((len : Int) - 1) = (m : Int) := by simp [IntKind.wrap, IntKind.bits, IntKind.signed]; omega
     clear ht hlen hmm
     have hd1 : decide ((2 : Int) ≤ (len : Int)) = true := by simp; omega
     have hd2 : decide ((len : Int) ≤ 128) = true := by simp; omega
     go_enter Tryz.func90, Tryz.ntmps90
     go_wp2
     go_quiet ((first | (go_at_call 145; refine Calls.quiet_of_same (zCk _ _ _ l _ HL.out HM.out)) | (go_at_call 89; refine Calls.quiet_of_same (zFp _ _ _ (l.take m) _ HT.out HTM.out))))
     go_wp2
     go_ret
     exact ⟨zT HE.out.symm, _, rfl⟩
   ·have hall' : l.all bok = false := by simpa using hall
    have HE : Hid (xR l = false) := zDt hall'
    have hd1 : decide ((2 : Int) ≤ (len : Int)) = true := by simp; omega
    have hd2 : decide ((len : Int) ≤ 128) = true := by simp; omega
    clear hall
    go_enter Tryz.func90, Tryz.ntmps90
    go_wp2
    go_quiet ((go_at_call 145; refine Calls.quiet_of_same (zCk _ _ _ l _ HL.out HM.out)))
    go_wp2
    go_ret
    exact ⟨zT HE.out.symm, _, rfl⟩
  ·have HE : Hid (xR l = false) := zHs (by omega)
   have hd1 : decide ((2 : Int) ≤ (len : Int)) = true := by simp; omega
   have hd2 : decide ((len : Int) ≤ 128) = false := by simp; omega
   go_enter Tryz.func90, Tryz.ntmps90
   go_wp2
   go_quiet (fail)
   go_wp2
   go_ret
   exact ⟨zT HE.out.symm, _, rfl⟩
 ·have HE : Hid (xR l = false) := zGk (by omega)
  have hd1 : decide ((2 : Int) ≤ (len : Int)) = false := by simp; omega
  go_enter Tryz.func90, Tryz.ntmps90
  go_wp2
  go_quiet (fail)
  go_wp2
  go_ret
  exact ⟨zT HE.out.symm, _, rfl⟩

set_option maxHeartbeats 1000000 in
theorem zNe (a : Option Addr) (len cap : Nat) (l : List Int) (w : World) (hl : xM w a len l) (hm : len ≤ cap) (hcm : cap ≤ maxLen) :
  Calls Tryz.prog 82 #[.slice a len cap] w fun e w' => e = .returned (.bool (xR l)) ∧ ∃ n, w' = w.drewN n := by
 have HL : Hid (xM w a len l) := hl
 unfold maxLen at hcm
 obtain ⟨hlen, hc⟩ := hl
 by_cases h2 : len < 2
 ·have HE : Hid (xR l = false) := zGk (by omega)
  go_enter Tryz.func82, Tryz.ntmps82
  go_wp2
  go_ret
  exact ⟨zT HE.out.symm, 0, rfl⟩
 ·by_cases h128 : 128 < len
  ·have HE : Hid (xR l = false) := zHs (by omega)
   go_enter Tryz.func82, Tryz.ntmps82
   go_wp2
   go_ret
   exact ⟨zT HE.out.symm, 0, rfl⟩
  ·rcases hc with h0 | ⟨b, off, rfl, hb, hcell⟩
   ·omega
   ·obtain ⟨m, hmm⟩ : ∃ m, m = len - 1 := ⟨_, rfl⟩
    have hz := hcell m (by omega)
    clear hcell
    obtain ⟨z, hzz⟩ : ∃ z, z = l.getD m 0 := ⟨_, rfl⟩
    rw [← hzz] at hz
    have HZ : Hid (z = l.getD m 0) := hzz
    have HE0 : bok z = false → xR l = false := by rw [hzz, hmm, ← hlen]; exact zNd (by omega)
    have HE1 : bok z = true → xR l = (z == chk (l.take m)) := by rw [hzz, hmm, ← hlen]; exact zI4 (by omega) (by omega)
    clear hzz
    have ht : xM w (some ⟨b, off, none⟩) m (l.take m) := HL.out.take _ (by omega)
    have HT : Hid (xM w (some ⟨b, off, none⟩) m (l.take m)) := ht
    have HTM : Hid (m ≤ maxLen) := by show m ≤ maxLen; unfold maxLen; omega
    have hml : m < len := by omega
    have hmi : (m : Int) < (len : Int) := by omega
    have hmc : m ≤ cap := by omega
    have hwr : (len : Int) - 1 = (m : Int) := by omega
    clear ht hlen hmm
    by_cases hbz : bok z = true
    ·have HE : Hid (xR l = (z == chk (l.take m))) := HE1 hbz
     clear HE0 HE1
     have hB : ∀ W, Calls Tryz.prog 84 #[.int .i64 z] W fun e w' => e = .returned (.bool true) ∧ w' = W := fun W => by have := qL z W; rw [hbz] at this; exact this
     go_enter Tryz.func82, Tryz.ntmps82
     go_wp2
     go_quiet ((first | (go_at_call 84; refine Calls.quiet_of_same (hB _)) | (go_at_call 163; refine Calls.quiet_of_same (zK1 _ _ _ (l.take m) _ HT.out HTM.out))))
     go_wp2
     go_ret
     exact ⟨zT HE.out.symm, _, rfl⟩
    ·have hbz' : bok z = false := by simpa using hbz
     have HE : Hid (xR l = false) := HE0 hbz'
     clear HE0 HE1 hbz
     have hB : ∀ W, Calls Tryz.prog 84 #[.int .i64 z] W fun e w' => e = .returned (.bool false) ∧ w' = W := fun W => by have := qL z W; rw [hbz'] at this; exact this
     go_enter Tryz.func82, Tryz.ntmps82
     go_wp2
     go_quiet ((go_at_call 84; refine Calls.quiet_of_same (hB _)))
     go_wp2
     go_ret
     exact ⟨zT HE.out.symm, _, rfl⟩
theorem zEr (v : Value) (l : List Int) (w : World) (h : Sl w v l) :
  Calls Tryz.prog 89 #[v] w fun e w' => e = .returned (.int .i64 (chk l)) ∧ w' = w := by
 obtain ⟨a, cap, rfl, h1, h2, h3, h4⟩ := h
 exact zFp _ _ _ l _ h1 (Nat.le_trans h2 h3)
theorem zBr (v : Value) (l : List Int) (w : World) (h : Sl w v l) :
  Calls Tryz.prog 90 #[v] w fun e w' => e = .returned (.bool (xR l)) ∧ ∃ n, w' = w.drewN n := by
 obtain ⟨a, cap, rfl, h1, h2, h3, h4⟩ := h
 exact zNc _ _ _ l _ h1 h2 h3
theorem zLn (v : Value) (l : List Int) (w : World) (h : Sl w v l) :
  Calls Tryz.prog 82 #[v] w fun e w' => e = .returned (.bool (xR l)) ∧ ∃ n, w' = w.drewN n := by
 obtain ⟨a, cap, rfl, h1, h2, h3, h4⟩ := h
 exact zNe _ _ _ l _ h1 h2 h3
end Go.Proofs.YtamldhflkfbdnaaGreatDoor.Rom
namespace Go.Proofs.YtamldhflkfbdnaaGreatDoor.RomOf
open Go.ChangeShapes Go.WideShapes Go.RowKit Base Slc Num Rom

theorem zC8 (v : Value) (l : List Int) (w : World) (h : Sl w v l) (hb : l.length ≤ 17592186044415) :
  Calls Tryz.prog 88 #[v] w fun e w' => ∃ v', e = .returned v' ∧ Own w.heap.size w' v' l ∧ Below w.heap.size w w' := by
 have HO := zB4 w.heap.size w #[] [] rfl (by decide) (Nat.le_refl _)
 have HS := h.below ((Below.refl _ _).alloc (Nat.le_refl _) (.cells #[] 2))
 have HB : Below w.heap.size w (w.alloc (.cells #[] 2)) := (Below.refl _ _).alloc (Nat.le_refl _) _
 go_enter Tryz.func88, Tryz.ntmps88
 go_wp2_with (at_builtin; refine app rfl (.tmp 3) (.tmp 4) rfl w.heap.size [] l HO HS (by simp; omega) (by simp) ?_; intro v' w' ho hg)
 go_ret
 exact ⟨v', rfl, by simpa using ho, HB.grown hg (by simp) (fun k hk => (HO.lt k hk).1)⟩

theorem zJ5 (v : Value) (l : List Int) (w : World) (h : Sl w v l) (hb : l.length ≤ 17592186044415) :
  Calls Tryz.prog 170 #[v] w fun e w' => ∃ v', e = .returned v' ∧ Own w.heap.size w' v' l ∧ Below w.heap.size w w' := by
 have HO := zB4 w.heap.size w #[] [] rfl (by decide) (Nat.le_refl _)
 have HS := h.below ((Below.refl _ _).alloc (Nat.le_refl _) (.cells #[] 2))
 have HB : Below w.heap.size w (w.alloc (.cells #[] 2)) := (Below.refl _ _).alloc (Nat.le_refl _) _
 have q : ∀ (w : World) (a : Option Addr) (n c n' c' : Nat), (binOp .eql 24 (.slice a n c) (.slice none n' c')).run Tryz.prog w = .ok (.bool a.isNone) w := fun w a n c n' c' => Lib.run_eql_slice_nil w _ _ a n c n' c' zBq
 obtain ⟨a, cap, rfl, hat, hlc, hcm, hnil⟩ := h
 cases a with
 | none =>
  obtain ⟨h0, rfl⟩ := hnil rfl
  have : l = [] := List.eq_nil_of_length_eq_zero h0
  subst this
  go_enter Tryz.func170, Tryz.ntmps170
  go_wp2
  go_ret
  exact ⟨_, rfl, Own.nil _ _, Below.refl _ _⟩
 | some x =>
  go_enter Tryz.func170, Tryz.ntmps170
  go_wp2_with (at_builtin; refine app rfl (.tmp 5) (.tmp 6) rfl w.heap.size [] l HO HS (by simp; omega) (by simp) ?_; intro v' w' ho hg)
  go_ret
  exact ⟨v', rfl, by simpa using ho, HB.grown hg (by simp) (fun k hk => (HO.lt k hk).1)⟩

def zFc (l : List Int) : List Int := if xR (l ++ [chk l]) then l ++ [chk l] else []

theorem zNf (v : Value) (l : List Int) (w : World) (h : Sl w v l) (hb : l.length ≤ 4000000) :
  Calls Tryz.prog 26 #[v] w fun e w' => ∃ v', e = .returned (.tuple #[v', .bool (xR (l ++ [chk l]))]) ∧ Own w.heap.size w' v' (zFc l) ∧ Below w.heap.size w w' := by
 by_cases hr : xR (l ++ [chk l]) = true
 ·have HR : Hid (zFc l = l ++ [chk l]) := by show zFc l = _; simp [zFc, hr]
  rw [hr]
  go_enter Tryz.func26, Tryz.ntmps26
  go_wp2_with (first
   | (go_at_call 88; refine (zC8 v l _ h (by omega)).mono ?_; rintro e w1 ⟨v1, rfl, ho1, hb1⟩)
   | (go_at_call 89; refine (zEr _ l _ (h.below hb1)).mono ?_; rintro e w2 ⟨rfl, rfl⟩)
   | (at_builtin; refine app rfl (.tmp 6) (.tmp 9) rfl w.heap.size l [chk l] (ho1.below ((Below.refl _ _).alloc (Nat.le_refl _) _)) (zHp _ _ [chk l] rfl (by simp [maxLen])) (by simp; omega) (by have := hb1.size; simp; omega) ?_; intro v2 w3 ho2 hg2)
   | (go_at_call 90; refine (zBr _ (l ++ [chk l]) _ ho2.sl).mono ?_; rintro e w4 ⟨rfl, n4, rfl⟩))
  go_ret2
  refine ⟨_, rfl, by rw [HR.out]; exact ho2.drewN _, below_drewN ((hb1.alloc hb1.size _).grown hg2 (by have := hb1.size; simp; omega) (fun k hk => (ho1.lt k hk).1)) _⟩
 ·have hr' : xR (l ++ [chk l]) = false := by simpa using hr
  have HR : Hid (zFc l = []) := by show zFc l = _; simp [zFc, hr']
  clear hr
  rw [hr']
  go_enter Tryz.func26, Tryz.ntmps26
  go_wp2_with (first
   | (go_at_call 88; refine (zC8 v l _ h (by omega)).mono ?_; rintro e w1 ⟨v1, rfl, ho1, hb1⟩)
   | (go_at_call 89; refine (zEr _ l _ (h.below hb1)).mono ?_; rintro e w2 ⟨rfl, rfl⟩)
   | (at_builtin; refine app rfl (.tmp 6) (.tmp 9) rfl w.heap.size l [chk l] (ho1.below ((Below.refl _ _).alloc (Nat.le_refl _) _)) (zHp _ _ [chk l] rfl (by simp [maxLen])) (by simp; omega) (by have := hb1.size; simp; omega) ?_; intro v2 w3 ho2 hg2)
   | (go_at_call 90; refine (zBr _ (l ++ [chk l]) _ ho2.sl).mono ?_; rintro e w4 ⟨rfl, n4, rfl⟩))
  go_ret2
  have hB := below_drewN ((hb1.alloc hb1.size (.cells #[.int .i64 (chk l)] 2)).grown hg2 (by have := hb1.size; simp; omega) (fun k hk => (ho1.lt k hk).1)) n4
  refine ⟨_, rfl, by rw [HR.out]; exact zB4 w.heap.size _ #[] [] rfl (by decide) hB.size, hB.alloc hB.size _⟩

end Go.Proofs.YtamldhflkfbdnaaGreatDoor.RomOf
