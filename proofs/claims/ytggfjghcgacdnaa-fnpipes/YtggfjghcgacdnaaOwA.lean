/-
  A list of one's own in a block that may be greater than its capacity, and of any type: what a slice with three indexes leaves of an array. Elements are copied into it and appended to it in place.
-/
import Derived.Test.YtggfjghcgacdnaaSlf
import Derived.Laws.CopyRow
import Derived.Laws.OwnMore
namespace Go.Proofs.Ytggfjghcgacdnaa.Slf
open Go.RowKit Base Slc Rw Reg
set_option linter.unusedVariables false
set_option linter.unusedSimpArgs false
set_option maxRecDepth 20000

/-- A list of one's own in a block of type B, which holds at least what the capacity says. -/
def OwnA {α : Type} (B : TypeId) (f : Fl α) (base : Nat) (w : World) (v : Value) (l : List α) : Prop :=
  (v = .slice none 0 0 ∧ l.length = 0) ∨
  ∃ g cap cur, v = .slice (some ⟨g, 0, none⟩) l.length cap ∧ base ≤ g ∧ w.heap[g]? = some (.cells cur B (0, 0)) ∧ l.length ≤ cap ∧ cap ≤ maxLen ∧ cap * f.n ≤ cur.size ∧ cur.toList.take (l.length * f.n) = f.flat l
section
variable {α : Type} {B : TypeId} {f : Fl α} {w w' : World} {v : Value} {l news : List α} {base p : Nat} {row : Option Nat}
theorem OwnF.toA (h : OwnF f base w v l) : OwnA f.T f base w v l := by
  rcases h.2 with h0 | ⟨g, cap, cur, rfl, hb, hg, hn, hm, hcs, ht⟩
  · exact .inl h0
  · exact .inr ⟨g, cap, cur, rfl, hb, hg, hn, hm, Nat.le_of_eq hcs.symm, ht⟩
theorem OwnA.mono {base' : Nat} (h : OwnA B f base w v l) (hb : base' ≤ base) : OwnA B f base' w v l := by
  rcases h with h0 | ⟨g, cap, cur, rfl, hb', rest⟩
  · exact .inl h0
  · exact .inr ⟨g, cap, cur, rfl, Nat.le_trans hb hb', rest⟩
theorem OwnA.kept (h : OwnA B f base w v l) (hk : ∀ k, v.ownBlock = some k → w'.heap[k]? = w.heap[k]?) : OwnA B f base w' v l := by
  rcases h with h0 | ⟨g, cap, cur, rfl, hb, hg, rest⟩
  · exact .inl h0
  · exact .inr ⟨g, cap, cur, rfl, hb, by rw [hk g rfl]; exact hg, rest⟩
theorem OwnA.lt (h : OwnA B f base w v l) : ∀ k, v.ownBlock = some k → base ≤ k ∧ k < w.heap.size := by
  intro k hk
  rcases h with ⟨rfl, _⟩ | ⟨g, cap, cur, rfl, hb, hg, _⟩
  · simp [Value.ownBlock] at hk
  · simp [Value.ownBlock] at hk
    subst hk
    exact ⟨hb, (Array.getElem?_eq_some_iff.1 hg).1⟩
theorem OwnA.below (h : OwnA B f base w v l) (hb : Below w.heap.size w w') : OwnA B f base w' v l := h.kept fun k hk => hb.block k (h.lt k hk).2
theorem OwnA.onto (h : OwnA B f base w v l) (ho : Onto p w w') (hp : v.ownBlock ≠ some p) : OwnA B f base w' v l :=
  h.kept fun k hk => ho.block k (fun e => hp (by rw [hk, e])) (h.lt k hk).2
theorem OwnA.grown (h : OwnA B f base w v l) (hg : w.grownBy w' row) (hr : ∀ k, row = some k → v.ownBlock ≠ some k) : OwnA B f base w' v l :=
  h.kept fun k hk => hg.block k (h.lt k hk).2 (fun e => hr k e.symm hk)
theorem OwnA.not_row {g : Nat} {cs : Array Value} {T : TypeId} (h : OwnA B f base w v l) (hr : Row w g cs T) (hT : T ≠ B) : v.ownBlock ≠ some g := fun e => by
  rcases h with ⟨rfl, _⟩ | ⟨g', cap, cur, rfl, _, hb, _⟩
  · simp [Value.ownBlock] at e
  · have e' : g' = g := Option.some.inj e
    rw [e', hr.row] at hb
    simp only [Option.some.injEq, Obj.cells.injEq] at hb
    exact hT hb.2.1
theorem OwnA.sl (hf : f.Ok) (h : OwnA B f base w v l) : SlF f w v l := by
  have hlt := h.lt
  rcases h with ⟨rfl, h0⟩ | ⟨g, cap, cur, rfl, hb, hg, hn, hm, hcs, ht⟩
  · exact ⟨none, 0, by rw [h0], .inl h0, by omega, by decide, fun _ => ⟨h0, rfl⟩⟩
  · refine ⟨some ⟨g, 0, none⟩, cap, rfl, .inr ⟨g, 0, rfl, (hlt g rfl).2, fun k hk => ?_⟩, hn, hm, by simp⟩
    rw [cell_of_row w g (0 + k) cur B (0, 0) hg, Nat.zero_add, ← ht, List.getElem?_take, if_pos hk, Array.getElem?_toList]
theorem OwnA.one (hf : f.Ok) (h : OwnA B f base w v l) : v.oneCell' = true := (h.sl hf).one
/-- The parts of a list of one's own that isn't nil. -/
theorem OwnA.parts {g n cap : Nat} (h : OwnA B f base w (.slice (some ⟨g, 0, none⟩) n cap) l) : l.length = n ∧ base ≤ g ∧ ∃ cur, w.heap[g]? = some (.cells cur B (0, 0)) ∧ l.length ≤ cap ∧ cap ≤ maxLen ∧ cap * f.n ≤ cur.size ∧ cur.toList.take (l.length * f.n) = f.flat l := by
  rcases h with ⟨e, _⟩ | ⟨g', cap', cur, e, hb, hg, rest⟩
  · cases e
  · simp only [Value.slice.injEq, Option.some.injEq, Addr.mk.injEq, and_true, true_and] at e
    obtain ⟨rfl, rfl, rfl⟩ := e
    exact ⟨rfl, hb, cur, hg, rest⟩
theorem OwnA.store (hf : f.Ok) {g n cap i j : Nat} {x x' : α} {u : Value} (h : OwnA B f base w (.slice (some ⟨g, 0, none⟩) n cap) l) (hi : l[i]? = some x) (hj : j < f.n) (hx : (f.F x).set j u = f.F x') :
    OwnA B f base (w.setCell ⟨g, i * f.n + j, none⟩ u) (.slice (some ⟨g, 0, none⟩) n cap) (l.set i x') ∧ w.grownBy (w.setCell ⟨g, i * f.n + j, none⟩ u) (some g) := by
  obtain ⟨rfl, hb, cur, hg, hn, hm, hcs, ht⟩ := h.parts
  refine ⟨.inr ⟨g, cap, cur.setIfInBounds (i * f.n + j) u, by rw [List.length_set], hb, heap_setCell_same w g _ cur B u hg, by rw [List.length_set]; exact hn, hm, by simpa using hcs, ?_⟩,
    ⟨rfl, rfl, rfl, by simp, fun k _ hk => heap_setCell_other w ⟨g, _, none⟩ k u (fun e => hk (by simp [e]))⟩⟩
  rw [Array.toList_setIfInBounds, List.length_set, List.take_set, ht, flat_set hf hi hj hx]
theorem OwnA.cellAt (hf : f.Ok) {g n cap i j : Nat} {x : α} (h : OwnA B f base w (.slice (some ⟨g, 0, none⟩) n cap) l) (hi : l[i]? = some x) (hj : j < f.n) : w.cell? ⟨g, i * f.n + j, none⟩ = (f.F x)[j]? := by
  have := (h.sl hf).cell hf hi hj
  rwa [Nat.zero_add] at this
theorem OwnA.free {g n cap : Nat} (h : OwnA B f base w (.slice (some ⟨g, 0, none⟩) n cap) l) (j : Nat) : w.frozen? ⟨g, j, none⟩ = false := by
  obtain ⟨-, -, cur, hg, -⟩ := h.parts
  exact frozen_of_row w g j cur B hg
theorem own_thereA (hf : f.Ok) {g n cap i : Nat} {e : α} (h : OwnA B f base w (.slice (some ⟨g, 0, none⟩) n cap) l) (hi : l[i]? = some e) : w.there g (i * f.n) f.n := fun j hj => by
  have hc := h.cellAt hf hi hj
  refine ⟨?_, h.free _⟩
  rw [hc]
  have := hf.len e
  rw [List.getElem?_eq_getElem (by omega)]
  rfl
section
variable {ops : Array Oper} {rest : List Oper} {o : Oper} {A : Act} {K : Act → World → Prop} {Q : Exit → Act → World → Prop} {x y : Operand}
/-- One cell of an element is laid. -/
theorem stA (hf : f.Ok) {ty : TypeId} {g n cap i j q : Nat} {e e' : α} {u : Value} (hgd : o.guard = none) (ho : o.op = .store ty x y) (hx : A.eval x = .pointer (some ⟨g, q, none⟩)) (hy : A.eval y = u) (hsz : (Try.prog.info? ty).map (·.size) = some 1)
    (hown : OwnA B f base w (.slice (some ⟨g, 0, none⟩) n cap) l) (hi : l[i]? = some e) (hq : q = i * f.n + j) (hj : j < f.n) (h1 : u.oneCell' = true) (hset : (f.F e).set j u = f.F e')
    (h : ∀ w', OwnA B f base w' (.slice (some ⟨g, 0, none⟩) n cap) (l.set i e') → w.grownBy w' (some g) → wpList Try.prog ops Q rest (A.put o.dst undef) w') : wpList Try.prog ops Q (o :: rest) A w :=
  wpList_plain hgd fun _ hK => by
    subst hq
    have ht : w.there g (i * f.n + j) [u].length := fun k hk => by
      have hk0 : k = 0 := by simpa using hk
      subst hk0
      exact own_thereA hf hown hi j hj
    have hs := hown.store hf hi hj hset
    unfold Oper.wp execOp
    simp only [ho, hx, hy, Instr.storeAt, Instr.sureAddr, Sem.run_bind, Sem.run_pure, Result.andThen_ok, run_store_in (P := Try.prog) w g (i * f.n + j) ty u [u] (by cases u <;> first | rfl | (simp [Value.oneCell'] at h1; done)) ht (by simpa using hsz) (by simp [h1])]
    exact hK _ _ (h _ hs.1 hs.2)
/-- 'append' where there is room: in place. -/
theorem appA (hf : f.Ok) {g n cap m c : Nat} {ad : Addr} (hgd : o.guard = none) (ho : o.op = .call { callee := .builtin .append, args := #[x, y], argTypes := #[f.S, f.S] })
    (hx : A.eval x = .slice (some ⟨g, 0, none⟩) n cap) (hown : OwnA B f base w (.slice (some ⟨g, 0, none⟩) n cap) l) (hy : A.eval y = .slice (some ad) m c) (hn : SlF f w (.slice (some ad) m c) news) (hroom : n + m ≤ cap)
    (h : ∀ w', OwnA B f base w' (.slice (some ⟨g, 0, none⟩) (n + m) cap) (l ++ news) → w.grownBy w' (some g) → wpList Try.prog ops Q rest (A.put o.dst (.slice (some ⟨g, 0, none⟩) (n + m) cap)) w') : wpList Try.prog ops Q (o :: rest) A w := by
  obtain ⟨i0, hi, hz0, hz1, hz2⟩ := info_parts hf.info
  obtain ⟨rfl, hb, cur, hg, hlc, hm, hcs, ht⟩ := hown.parts
  obtain ⟨ao, cap', he, hat, -⟩ := hn
  simp only [Value.slice.injEq] at he
  obtain ⟨rfl, rfl, rfl⟩ := he
  have hlen := flat_len hf news
  have hcell : ∀ j u, (f.flat news)[j]? = some u → w.cell? (ad.add j) = some u := fun j u hj => by
    have hjl : j < news.length * f.n := by
      have := (List.getElem?_eq_some_iff.1 hj).1
      rwa [hlen] at this
    rcases hat with h0 | ⟨b, off, hb, hbs, hc⟩
    · rw [h0] at hjl; omega
    · cases hb
      have e : (⟨b, off, none⟩ : Addr).add j = ⟨b, off + j, none⟩ := by
        by_cases hi0 : j = 0 <;> simp [Addr.add, hi0]
      rw [e, hc j hjl, hj]
  have hfit : l.length * f.n + (f.flat news).length ≤ cur.size := by
    rw [hlen, ← Nat.add_mul]
    exact Nat.le_trans (Nat.mul_le_mul_right _ hroom) hcs
  have hfc := run_firstCells_some (P := Try.prog) w f.n news.length ad news.length c (f.flat news) hlen hcell
  have hst := run_storeCells_at Try.prog g (l.length * f.n) B (f.flat news) 0 cur w hg (by simpa using hfit) (fun u hu => List.all_eq_true.1 (flat_one hf news) u hu)
  simp only [Nat.add_zero] at hst
  have hr : (Builtin.append_ #[f.S, f.S] o.type #[.slice (some ⟨g, 0, none⟩) l.length cap, .slice (some ad) news.length c]).run Try.prog w =
      .ok (.slice (some ⟨g, 0, none⟩) (l.length + news.length) cap) (w.setRow g (cur.toList.take (l.length * f.n) ++ f.flat news ++ cur.toList.drop (l.length * f.n + (f.flat news).length)).toArray) := by
    simp [Builtin.append_, run_underlying hf.und, sizeOf, typeInfo, hi, Builtin.lenOf, hroom, hz1, hfc, Addr.add_lit, hst]
  have key : ∀ w', w' = w.setRow g (cur.toList.take (l.length * f.n) ++ f.flat news ++ cur.toList.drop (l.length * f.n + (f.flat news).length)).toArray → OwnA B f base w' (.slice (some ⟨g, 0, none⟩) (l.length + news.length) cap) (l ++ news) ∧ w.grownBy w' (some g) := by
    rintro w' rfl
    refine ⟨.inr ⟨g, cap, _, by rw [List.length_append], hb, setRow_heap w g cur _ B _ hg, by rw [List.length_append]; exact hroom, hm, ?_, ?_⟩, ⟨rfl, rfl, rfl, by simp, fun k _ hk => setRow_other w g k _ (fun e => hk (by simp [e]))⟩⟩
    · have : (cur.toList.take (l.length * f.n)).length = l.length * f.n := by simp; omega
      simp only [List.size_toArray, List.length_append, this, List.length_drop, Array.length_toList]
      omega
    · have hl2 : (f.flat l ++ f.flat news).length = (l ++ news).length * f.n := by rw [← flat_app, flat_len hf]
      rw [ht, flat_app, ← hl2]
      exact List.take_left
  refine wpList_plain hgd fun _ hK => ?_
  unfold Oper.wp execOp
  simp only [ho, resolve, invoke, builtin, Sem.run_bind, Sem.run_pure, Result.andThen_ok, List.map_toArray, List.map_cons, List.map_nil, hx, hy, hr]
  have hk := key _ rfl
  exact hK _ _ (h _ hk.1 hk.2)
/-- 'copy' into a block of one's own, which has room for all. -/
theorem copyA (hf : f.Ok) {g n cap : Nat} {cur : Array Value} (hgd : o.guard = none) (ho : o.op = .call { callee := .builtin .copy, args := #[x, y], argTypes := #[f.S, f.S] })
    (hx : A.eval x = .slice (some ⟨g, 0, none⟩) n cap) (hg : w.heap[g]? = some (.cells cur B (0, 0))) (hy : SlF f w (A.eval y) l) (hl : l.length ≤ n) (hc : n * f.n ≤ cur.size)
    (h : ∀ w' cur', w'.heap[g]? = some (.cells cur' B (0, 0)) → cur'.size = cur.size → cur'.toList.take (l.length * f.n) = f.flat l → Onto g w w' → wpList Try.prog ops Q rest (A.put o.dst (.int .i64 (l.length : Int))) w') : wpList Try.prog ops Q (o :: rest) A w := by
  obtain ⟨i0, hi, hz0, hz1, hz2⟩ := info_parts hf.info
  obtain ⟨ao, c, hy', hat, hlc, hcm, hnil⟩ := hy
  have hlen := flat_len hf l
  have hfit : (f.flat l).length ≤ cur.size := by rw [hlen]; exact Nat.le_trans (Nat.mul_le_mul_right _ hl) hc
  have hfc : (Builtin.firstCells f.n l.length (.slice ao l.length c)).run Try.prog w = .ok (f.flat l).toArray w := by
    cases ao with
    | none =>
      have : l = [] := List.eq_nil_of_length_eq_zero (hnil rfl).1
      subst this
      exact run_firstCells_none (P := Try.prog) w _ _ _ _
    | some ad =>
      refine run_firstCells_some (P := Try.prog) w f.n l.length ad l.length c (f.flat l) hlen (fun j u hj => ?_)
      have hjl : j < l.length * f.n := by
        have := (List.getElem?_eq_some_iff.1 hj).1
        rwa [hlen] at this
      rcases hat with h0 | ⟨b, off, hb, hbs, hc⟩
      · rw [h0] at hjl; omega
      · cases hb
        have e : (⟨b, off, none⟩ : Addr).add j = ⟨b, off + j, none⟩ := by
          by_cases hi0 : j = 0 <;> simp [Addr.add, hi0]
        rw [e, hc j hjl, hj]
  have hst := run_storeCells_at Try.prog g 0 B (f.flat l) 0 cur w hg (by simpa using hfit) (fun u hu => List.all_eq_true.1 (flat_one hf l) u hu)
  simp only [Nat.add_zero, Nat.zero_add, List.take_zero, List.nil_append] at hst
  have hmin : Nat.min l.length n = l.length := Nat.min_eq_left hl
  have hr : (Builtin.copy_ #[f.S, f.S] o.type #[.slice (some ⟨g, 0, none⟩) n cap, .slice ao l.length c]).run Try.prog w =
      .ok (.int .i64 (l.length : Int)) (w.setRow g (f.flat l ++ cur.toList.drop (f.flat l).length).toArray) := by
    simp [Builtin.copy_, run_underlying hf.und, sizeOf, typeInfo, hi, Builtin.lenOf, hmin, hz1, hfc, hst, goInt]
  refine wpList_plain hgd fun _ hK => ?_
  unfold Oper.wp execOp
  simp only [ho, resolve, invoke, builtin, Sem.run_bind, Sem.run_pure, Result.andThen_ok, List.map_toArray, List.map_cons, List.map_nil, hx, hy', hr]
  refine hK _ _ (h _ _ (setRow_heap w g cur _ B _ hg) ?_ ?_ ⟨rfl, rfl, rfl, by simp, fun k hk _ => setRow_other w g k _ hk⟩)
  · simp only [List.size_toArray, List.length_append, List.length_drop, Array.length_toList]
    omega
  · rw [← hlen]
    exact List.take_left
/-- 'append' onto a list of one's own of a list that may be nil or empty, in a drawn region. -/
theorem appE_op (hf : f.Ok) (base : Nat) (l news : List α) (ho : o.op = .call { callee := .builtin .append, args := #[x, y], argTypes := #[f.S, f.S] }) (hown : OwnF f base w (A.eval x) l) (hn : SlF f w (A.eval y) news) (hbd : l.length + news.length ≤ 100000000) (hbase : base ≤ w.heap.size)
    (h : ∀ v' w', OwnF f base w' v' (l ++ news) → w.grownBy w' (A.eval x).ownBlock → K (A.put o.dst v') w') : o.wp Try.prog A w K Q := by
  obtain ⟨i0, hi, hz0, hz1, hz2⟩ := info_parts hf.info
  obtain ⟨ao, cap, hx, hat, hlc, hcm, hnil⟩ := hn
  have hfew := hf.few
  cases ao with
  | none =>
    obtain ⟨h0, rfl⟩ := hnil rfl
    have : news = [] := List.eq_nil_of_length_eq_zero h0
    subst this
    have hr := run_append_owned_none (P := Try.prog) (w := w) base f.S o.type f.T i0 f.n hf.und hi (A.eval x) l.length (f.flat l) hown
    have hx' : A.eval y = .slice none 0 0 := hx
    unfold Oper.wp execOp
    simp only [ho, resolve, invoke, builtin, Sem.run_bind, Sem.run_pure, Result.andThen_ok, List.map_toArray, List.map_cons, List.map_nil, hx', hr]
    exact h _ w (by simpa using hown) (World.grownBy.refl w _)
  | some ad =>
    refine wp_append_own w x y f.S ho base f.T i0 (f.V f.z) f.n f.bytes hf.und hi hz0 hz1 hz2 ?_ hf.pos (A.eval x) l.length (f.flat l) rfl hown ad news.length cap (f.flat news) hx (flat_len hf _) ?_ ?_ ?_ ?_ hbase ?_
    · rw [hf.val]; simp [hf.len]
    · intro j u hj
      have hjl : j < news.length * f.n := by
        have := (List.getElem?_eq_some_iff.1 hj).1
        rwa [flat_len hf] at this
      rcases hat with h0 | ⟨b, off, hb, hbs, hc⟩
      · rw [h0] at hjl; omega
      · cases hb
        rw [Addr.add_mid, hc j hjl, hj]
    · intro u hu
      exact List.all_eq_true.1 (flat_one hf news) u hu
    · unfold maxLen; omega
    · exact Nat.le_trans (Nat.mul_le_mul hbd hfew) (by decide)
    · intro v' w' h2 h3 _
      refine h v' w' ?_ h3
      unfold OwnF
      rw [List.length_append, flat_app]
      exact h2
/-- A list from a place on, whatever its capacity. -/
theorem dropF_op (hf : f.Ok) {b off n c r : Nat} (ho : o.op = .slice f.S x (some y) none none) (hx : A.eval x = .slice (some ⟨b, off, none⟩) n c) (hz : A.eval y = .int .i64 (r : Int)) (hr : r ≤ n) (hs : SlF f w (.slice (some ⟨b, off, none⟩) n c) l) (h : ∀ v', SlF f w v' (l.drop r) → v'.ownBlock = some b → K (A.put o.dst v') w) : o.wp Try.prog A w K Q := by
  obtain ⟨ao, c', he, hat, hlc, hcm, hnil⟩ := id hs
  simp only [Value.slice.injEq] at he
  obtain ⟨rfl, rfl, rfl⟩ := he
  by_cases hrc : r < c
  · exact fromF_op hf ho hx hz hr hlc hrc (h _ (hs.drop hf r hr hrc) rfl)
  · have e : l.length = c := by omega
    have e2 : r = l.length := by omega
    subst e2
    rw [e] at hx hz
    refine endF_op hf ho hx hz (h _ ?_ rfl)
    rw [List.drop_of_length_le (Nat.le_refl _)]
    exact ⟨_, 0, rfl, .inl rfl, Nat.le_refl _, by decide, by simp⟩
/-- A list that is read bears whatever leaves its block as it is. -/
theorem SlF.moved (h : SlF f w v l) (hs : w.heap.size ≤ w'.heap.size) (hk : 0 < l.length → ∀ k, v.ownBlock = some k → w'.heap[k]? = w.heap[k]?) : SlF f w' v l := by
  obtain ⟨a, cap, rfl, h1, h2⟩ := h
  exact ⟨a, cap, rfl, h1.keep hs (fun h0 x hx => hk h0 _ (by subst hx; rfl)), h2⟩
/-- 'append' onto an empty literal: nothing that stands is written. -/
theorem appZ_op (hf : f.Ok) {b : Nat} (ho : o.op = .call { callee := .builtin .append, args := #[x, y], argTypes := #[f.S, f.S] }) (hx : A.eval x = .slice (some ⟨b, 0, none⟩) 0 0) (hown : OwnF f base w (.slice (some ⟨b, 0, none⟩) 0 0) []) (hn : SlF f w (A.eval y) news) (hbd : news.length ≤ 100000000) (hbase : base ≤ w.heap.size)
    (h : ∀ v' w', OwnF f base w' v' news → Below w.heap.size w w' → K (A.put o.dst v') w') : o.wp Try.prog A w K Q := by
  obtain ⟨i0, hi, hz0, hz1, hz2⟩ := info_parts hf.info
  obtain ⟨ao, cap, hy, hat, hlc, hcm, hnil⟩ := hn
  have hfew := hf.few
  by_cases h0 : news.length = 0
  · have : news = [] := List.eq_nil_of_length_eq_zero h0
    subst this
    have hr : (Builtin.append_ #[f.S, f.S] o.type #[.slice (some ⟨b, 0, none⟩) 0 0, .slice ao 0 cap]).run Try.prog w = .ok (.slice (some ⟨b, 0, none⟩) 0 0) w := by
      cases ao <;> simp [Builtin.append_, run_underlying hf.und, sizeOf, typeInfo, hi, Builtin.lenOf, Builtin.firstCells, storeCells, loadCells, loadCellsFrom]
    have hy' : A.eval y = .slice ao 0 cap := hy
    unfold Oper.wp execOp
    simp only [ho, resolve, invoke, builtin, Sem.run_bind, Sem.run_pure, Result.andThen_ok, List.map_toArray, List.map_cons, List.map_nil, hx, hy', hr]
    exact h _ w hown (Below.refl _ _)
  · cases ao with
    | none => exact absurd (hnil rfl).1 h0
    | some ad =>
      have hlen := flat_len hf news
      have hcell : ∀ j u, (f.flat news)[j]? = some u → w.cell? (ad.add j) = some u := fun j u hj => by
        have hjl : j < news.length * f.n := by
          have := (List.getElem?_eq_some_iff.1 hj).1
          rwa [hlen] at this
        rcases hat with h0 | ⟨b, off, hb, hbs, hc⟩
        · rw [h0] at hjl; omega
        · cases hb
          rw [Addr.add_mid, hc j hjl, hj]
      have hr := run_append_grow (P := Try.prog) w f.S o.type f.T i0 (f.V f.z) hf.und hi hz0 ⟨b, 0, none⟩ 0 0 [] (by simp) (fun j v hj => by simp at hj) ad news.length cap (f.flat news) (by rw [hz1]; exact hlen) hcell (by omega) (by omega) (growslice_fits (by omega) (by
        rw [Nat.zero_add, hz2]; exact Nat.le_trans (Nat.mul_le_mul hbd hfew) (by decide)))
      simp only [Nat.zero_add] at hr
      unfold Oper.wp execOp
      simp only [ho, resolve, invoke, builtin, Sem.run_bind, Sem.run_pure, Result.andThen_ok, List.map_toArray, List.map_cons, List.map_nil, hx, hy, hr]
      have hm : news.length ≤ maxLen := by unfold maxLen; omega
      have hge := grownCap_ge w news.length 0 f.T
      refine h _ _ ⟨hlen, .inr ⟨w.heap.size, _, _, rfl, hbase, heap_alloc_new w.drew _, hge, grownCap_le_maxLen w _ _ _ hm, ?_, ?_⟩⟩ (((Below.refl _ w).drew).alloc (Nat.le_refl _) _)
      · have hv : (f.V f.z).cells.size = f.n := by rw [hf.val]; simp [hf.len]
        simp only [Array.size_append, List.size_toArray, List.length_nil, size_zeroCells, hv, hlen, Nat.zero_add]
        rw [← Nat.add_mul]
        congr 1
        omega
      · simp only [Array.toList_append, List.nil_append, List.append_assoc, List.toList_toArray]
        rw [← hlen]
        exact List.take_left
/-- The empty literal, in a drawn region. -/
theorem noneF_op (hf : f.Ok) (ho : o.op = .buildSlice f.S 0 #[])
    (h : ∀ w', OwnF f w.heap.size w' (.slice (some ⟨w.heap.size, 0, none⟩) 0 0) [] → Below w.heap.size w w' → K (A.put o.dst (.slice (some ⟨w.heap.size, 0, none⟩) 0 0)) w') : o.wp Try.prog A w K Q := by
  obtain ⟨i0, hi, hz0, hz1, hz2⟩ := info_parts hf.info
  have hr : (Instr.buildSlice f.S 0 #[]).run Try.prog w = .ok (.slice (some ⟨w.heap.size, 0, none⟩) 0 0) (w.alloc (.cells #[] f.T)) := by simp [Instr.buildSlice, run_underlying hf.und, sizeOf, typeInfo, hi, newRow, Instr.fill]; exact congrArg (fun c => w.alloc (Obj.cells c f.T)) (Array.ext (by simp) fun i a b => absurd b (by simp))
  unfold Oper.wp execOp
  simp only [ho, Sem.run_bind]
  simp only [Array.map_empty, List.map_toArray, List.map_nil, hr, Result.andThen_ok]
  exact h _ (own_litF f hf w.heap.size w #[] [] rfl (by unfold maxLen; simp) (Nat.le_refl _)) ((Below.refl _ _).alloc (Nat.le_refl _) _)
end
end
end Go.Proofs.Ytggfjghcgacdnaa.Slf
