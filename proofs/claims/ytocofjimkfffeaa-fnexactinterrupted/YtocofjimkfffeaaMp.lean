/-
  A map from int64 numbers to int64 numbers, of a call's own, as the list of its entries: asked, laid, struck.
-/
import Derived.Test.YtocofjimkfffeaaBase
import Derived.Test.YtocofjimkfffeaaRows
import Derived.MapKept
namespace Go.Proofs.Ytocofjimkfffeaa.Mp
open Go.RowKit Base
set_option linter.unusedVariables false

def mget : List (Int × Int) → Int → Option Int
  | [], _ => none
  | (k, v) :: r, q => if q = k then some v else mget r q
def mput : List (Int × Int) → Int → Int → List (Int × Int)
  | [], q, n => [(q, n)]
  | (k, v) :: r, q, n => if q = k then (k, n) :: r else (k, v) :: mput r q n
def mdel : List (Int × Int) → Int → List (Int × Int)
  | [], _ => []
  | (k, v) :: r, q => if q = k then r else (k, v) :: mdel r q
theorem mget_mput : ∀ (L : List (Int × Int)) (q n x : Int), mget (mput L q n) x = if x = q then some n else mget L x
  | [], q, n, x => by simp [mput, mget]
  | (k, v) :: r, q, n, x => by
    by_cases h : q = k
    · subst h
      by_cases hx : x = q <;> simp [mput, mget, hx]
    · by_cases hx : x = k
      · have : ¬ x = q := by omega
        simp [mput, mget, h, hx]
        omega
      · simp [mput, mget, h, hx, mget_mput r q n x]
/-- The entry of a key: its place and its value. -/
def mfind : List (Int × Int) → Int → Nat → Option (Nat × Int)
  | [], _, _ => none
  | (k, v) :: r, q, i => if q = k then some (i, v) else mfind r q (i + 1)
def Ents (es : List MapEntry) (L : List (Int × Int)) : Prop := es.map (fun e => (e.key, e.val)) = L.map (fun x => (Value.int .i64 x.1, Value.int .i64 x.2))
theorem Ents.cons {e : MapEntry} {es : List MapEntry} {x : Int × Int} {L : List (Int × Int)} (h : Ents (e :: es) (x :: L)) : e.key = .int .i64 x.1 ∧ e.val = .int .i64 x.2 ∧ Ents es L := by
  simp only [Ents, List.map_cons, List.cons.injEq, Prod.mk.injEq] at h
  exact ⟨h.1.1, h.1.2, h.2⟩
theorem now_find : ∀ (es : List MapEntry) (L : List (Int × Int)) (q : Int) (i : Nat), Ents es L →
    Instr.findNow (.int .i64) (.int .i64 q) es i = some ((mfind L q i).map fun x => (x.1, Value.int .i64 x.2))
  | [], [], q, i, h => rfl
  | [], _ :: _, q, i, h => by simp [Ents] at h
  | _ :: _, [], q, i, h => by simp [Ents] at h
  | e :: es, (k, v) :: L, q, i, h => by
    obtain ⟨h1, h2, h3⟩ := h.cons
    unfold Instr.findNow
    rw [h1]
    by_cases hq : q = k
    · subst hq
      simp [Instr.sameNow, mfind, h2]
    · have hf : (q == k) = false := by simpa using hq
      simp [Instr.sameNow, mfind, hq, hf, now_find es L q (i + 1) h3]
theorem find_get : ∀ (L : List (Int × Int)) (q : Int) (i : Nat), (mfind L q i).map (·.2) = mget L q
  | [], q, i => rfl
  | (k, v) :: L, q, i => by
    by_cases hq : q = k <;> simp [mfind, mget, hq, find_get L q (i + 1)]
theorem find_none : ∀ (L : List (Int × Int)) (q : Int) (i : Nat), mfind L q i = none → (∀ n, mput L q n = L ++ [(q, n)]) ∧ mdel L q = L
  | [], q, i, _ => ⟨fun _ => rfl, rfl⟩
  | (k, v) :: L, q, i, h => by
    by_cases hq : q = k
    · simp [mfind, hq] at h
    · simp only [mfind, hq, if_false] at h
      have := find_none L q (i + 1) h
      simp [mput, mdel, hq, this]
theorem find_some : ∀ (L : List (Int × Int)) (q : Int) (i j : Nat) (v : Int), mfind L q i = some (j, v) →
    ∃ d, j = i + d ∧ L[d]? = some (q, v) ∧ (∀ n, mput L q n = L.modify d (fun _ => (q, n))) ∧ mdel L q = L.eraseIdx d
  | [], q, i, j, v, h => by simp [mfind] at h
  | (k, u) :: L, q, i, j, v, h => by
    by_cases hq : q = k
    · subst hq
      simp only [mfind, if_true, Option.some.injEq, Prod.mk.injEq] at h
      obtain ⟨rfl, rfl⟩ := h
      exact ⟨0, rfl, rfl, fun n => by simp [mput], by simp [mdel]⟩
    · simp only [mfind, hq, if_false] at h
      obtain ⟨d, rfl, h1, h2, h3⟩ := find_some L q (i + 1) j v h
      exact ⟨d + 1, by omega, by simpa using h1, fun n => by simp [mput, hq, h2], by simp [mdel, hq, h3]⟩
theorem Ents.at {es : List MapEntry} {L : List (Int × Int)} (h : Ents es L) {d : Nat} {x : Int × Int} (hx : L[d]? = some x) : ∃ e, es[d]? = some e ∧ e.key = .int .i64 x.1 := by
  have := congrArg (fun l => l[d]?) h
  simp only [List.getElem?_map, hx, Option.map_some] at this
  cases he : es[d]? with
  | none => simp [he] at this
  | some e =>
    simp only [he, Option.map_some, Option.some.injEq, Prod.mk.injEq] at this
    exact ⟨e, rfl, this.1⟩

/-- The map at block b has these entries. -/
def MapAt (w : World) (b : Nat) (L : List (Int × Int)) : Prop := ∃ es clock, w.heap[b]? = some (.map es clock) ∧ Ents es.toList L
theorem MapAt.lt {w : World} {b : Nat} {L : List (Int × Int)} (h : MapAt w b L) : b < w.heap.size := by
  obtain ⟨es, c, h, _⟩ := h
  exact (Array.getElem?_eq_some_iff.1 h).1
theorem MapAt.keep {w w' : World} {b : Nat} {L : List (Int × Int)} (h : MapAt w b L) (hk : w'.heap[b]? = w.heap[b]?) : MapAt w' b L := by
  obtain ⟨es, c, h, h2⟩ := h
  exact ⟨es, c, hk.trans h, h2⟩
theorem MapAt.below {w w' : World} {b : Nat} {L : List (Int × Int)} (h : MapAt w b L) (hb : Below w.heap.size w w') : MapAt w' b L := h.keep (hb.block b h.lt)
theorem MapAt.drewN {w : World} {b : Nat} {L : List (Int × Int)} (h : MapAt w b L) (n : Nat) : MapAt (w.drewN n) b L := h.keep rfl
theorem MapAt.onto {w w' : World} {b p : Nat} {L : List (Int × Int)} (h : MapAt w b L) (ho : Onto p w w') (hp : b ≠ p) : MapAt w' b L := h.keep (ho.block b hp h.lt)
theorem MapAt.new (w : World) : MapAt (w.alloc (.map #[] 0)) w.heap.size [] := ⟨#[], 0, heap_alloc_new _ _, rfl⟩
def setB (w : World) (b : Nat) (o : Obj) : World := { w with heap := w.heap.setIfInBounds b o }
theorem onto_setB (w : World) (b : Nat) (o : Obj) : Onto b w (setB w b o) :=
  ⟨rfl, rfl, rfl, by simp [setB], fun k hk _ => by simp [setB, Array.getElem?_setIfInBounds]; intro e; omega⟩
theorem size_setB (w : World) (b : Nat) (o : Obj) : (setB w b o).heap.size = w.heap.size := by simp [setB]
theorem setB_at {w : World} {b : Nat} (o : Obj) (hb : b < w.heap.size) : (setB w b o).heap[b]? = some o := by simp [setB, hb]
section
variable {P : Program} {w : World} {b : Nat} {L : List (Int × Int)} {t k e : TypeId}
theorem run_und {x : TypeId} {d : TypeDesc} (h : P.underlying x = some d) : (underlying x).run P w = .ok d w := by
  simp [underlying, h]
theorem run_check (hk : P.underlying k = some (.int .i64)) (q : Int) (em : Bool) : (Instr.checkKey em 10000 k (.int .i64 q)).run P w = .ok () w := by
  unfold Instr.checkKey
  simp [run_und hk]
theorem run_find (hk : P.underlying k = some (.int .i64)) {es : List MapEntry} (h : Ents es L) (q : Int) : (Instr.findKey k (.int .i64 q) es).run P w = .ok ((mfind L q 0).map fun x => (x.1, Value.int .i64 x.2)) w := by
  simp [Instr.findKey, run_und hk, now_find es L q 0 h]
theorem run_get (ht : P.underlying t = some (.map k e)) (hk : P.underlying k = some (.int .i64)) (hz : (zeroValue e).run P w = .ok (.int .i64 0) w) (h : MapAt w b L) (q : Int) :
    (Instr.lookup t (.map (some b)) (.int .i64 q) false).run P w = .ok (.int .i64 ((mget L q).getD 0)) w ∧
    (Instr.lookup t (.map (some b)) (.int .i64 q) true).run P w = .ok (.tuple #[.int .i64 ((mget L q).getD 0), .bool (mget L q).isSome]) w := by
  obtain ⟨es, c, hb, hE⟩ := h
  rw [← find_get L q 0]
  have hf := run_find (w := w) hk hE q
  cases hm : mfind L q 0 with
  | none =>
    rw [hm] at hf
    constructor <;> simp [Instr.lookup, run_und ht, MapKept.run_getObj_map hb, run_check hk, hf, hz, Result.andThen]
  | some x =>
    rw [hm] at hf
    constructor <;> simp [Instr.lookup, run_und ht, MapKept.run_getObj_map hb, run_check hk, hf, Result.andThen]
theorem stays (q : Int) : (Instr.keyThatStays (.int .i64 q) (.int .i64 q)).run P w = .ok (.int .i64 q) w := by
  simp [Instr.keyThatStays, Instr.sameBits]
theorem run_put (ht : P.underlying t = some (.map k e)) (hk : P.underlying k = some (.int .i64)) (h : MapAt w b L) (q n : Int) :
    ∃ w', (Instr.mapUpdate t (.map (some b)) (.int .i64 q) (.int .i64 n)).run P w = .ok () w' ∧ MapAt w' b (mput L q n) ∧ Onto b w w' ∧ w'.heap.size = w.heap.size := by
  have hlt := h.lt
  obtain ⟨es, c, hb, hE⟩ := h
  have hf := run_find (w := w) hk hE q
  cases hm : mfind L q 0 with
  | none =>
    rw [hm] at hf
    refine ⟨setB w b (.map (es.push { key := .int .i64 q, val := .int .i64 n, born := c }) (c + 1)), ?_, ⟨_, _, setB_at _ hlt, ?_⟩, onto_setB _ _ _, size_setB _ _ _⟩
    · simp [Instr.mapUpdate, run_und ht, MapKept.run_getObj_map hb, run_check hk, hf, MapKept.run_setObj_map _ hb, Result.andThen, setB]
    · rw [(find_none L q 0 hm).1]
      unfold Ents at hE ⊢
      simp [hE]
  | some x =>
    obtain ⟨j, v⟩ := x
    rw [hm] at hf
    obtain ⟨d, hj, h1, h2, _⟩ := find_some L q 0 j v hm
    obtain rfl : j = d := by omega
    obtain ⟨ent, he, hek⟩ := hE.at h1
    have he' : es[j]? = some ent := by rw [← Array.getElem?_toList]; exact he
    refine ⟨setB w b (.map (es.modify j fun y => { y with key := .int .i64 q, val := .int .i64 n }) c), ?_, ⟨_, _, setB_at _ hlt, ?_⟩, onto_setB _ _ _, size_setB _ _ _⟩
    · have hs := stays (P := P) (w := w) q
      simp only at hek
      simp [Instr.mapUpdate, run_und ht, MapKept.run_getObj_map hb, run_check hk, hf, he', hek, hs, MapKept.run_setObj_map _ hb, Result.andThen, setB]
    · rw [h2]
      unfold Ents at hE ⊢
      rw [Array.toList_modify]
      refine List.ext_getElem? fun i => ?_
      have hi := congrArg (fun l => l[i]?) hE
      simp only [List.getElem?_map, List.getElem?_modify] at hi ⊢
      by_cases hji : j = i
      · subst hji
        simp [he, h1]
      · simpa [hji] using hi
theorem run_del {ty : TypeId} (ht : P.underlying t = some (.map k e)) (hk : P.underlying k = some (.int .i64)) (h : MapAt w b L) (q : Int) :
    ∃ w', (Builtin.delete_ #[t, k] ty #[.map (some b), .int .i64 q]).run P w = .ok (.tuple #[]) w' ∧ MapAt w' b (mdel L q) ∧ Onto b w w' ∧ w'.heap.size = w.heap.size := by
  have hlt := h.lt
  obtain ⟨es, c, hb, hE⟩ := h
  have hf := run_find (w := w) hk hE q
  cases hm : mfind L q 0 with
  | none =>
    rw [hm] at hf
    refine ⟨setB w b (.map es c), ?_, ⟨_, _, setB_at _ hlt, ?_⟩, onto_setB _ _ _, size_setB _ _ _⟩
    · simp [Builtin.delete_, run_und ht, MapKept.run_getObj_map hb, run_check hk, hf, MapKept.run_setObj_map _ hb, Result.andThen, setB]
    · rw [(find_none L q 0 hm).2]; exact hE
  | some x =>
    obtain ⟨j, v⟩ := x
    rw [hm] at hf
    obtain ⟨d, hj, h1, _, h3⟩ := find_some L q 0 j v hm
    obtain rfl : j = d := by omega
    obtain ⟨ent, he, hek⟩ := hE.at h1
    have hjl : j < es.size := by
      have := (List.getElem?_eq_some_iff.1 he).1
      simpa using this
    refine ⟨setB w b (.map (es.eraseIdxIfInBounds j) c), ?_, ⟨_, _, setB_at _ hlt, ?_⟩, onto_setB _ _ _, size_setB _ _ _⟩
    · simp [Builtin.delete_, run_und ht, MapKept.run_getObj_map hb, run_check hk, hf, MapKept.run_setObj_map _ hb, Result.andThen, setB]
    · rw [h3]
      unfold Ents at hE ⊢
      unfold Array.eraseIdxIfInBounds
      rw [dif_pos hjl]
      simp only [Array.toList_eraseIdx]
      refine List.ext_getElem? fun i => ?_
      have hi := fun i : Nat => congrArg (fun l => l[i]?) hE
      simp only [List.getElem?_map] at hi
      simp only [List.getElem?_map, List.getElem?_eraseIdx]
      split <;> exact hi _
end
end Go.Proofs.Ytocofjimkfffeaa.Mp
