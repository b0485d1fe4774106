/-
  Slices of int64 numbers as lists: one that is read, one that a call has made; what a call that writes elsewhere leaves of them.
-/
import Derived.Test.YtggfjghcgacdnaaBase
import Derived.OwnWalk
import Derived.Laws.OwnMore
import Derived.Laws.AppendOwnNone
import Derived.Test.YtggfjghcgacdnaaRows
namespace Go.Proofs.Ytggfjghcgacdnaa.Slc
open Go.RowKit Base
set_option linter.unusedVariables false
set_option maxRecDepth 20000
set_option linter.unusedSimpArgs false

/-- The slice at a, of len elements, reads as the list l of numbers. -/
def IntsAt (w : World) (a : Option Addr) (len : Nat) (l : List Int) : Prop :=
  l.length = len ∧ (len = 0 ∨ ∃ b off, a = some ⟨b, off, none⟩ ∧ b < w.heap.size ∧ ∀ i, i < len → w.cell? ⟨b, off + i, none⟩ = some (.int .i64 (l.getD i 0)))
theorem IntsAt.below {w w' : World} {a : Option Addr} {len : Nat} {l : List Int} (h : IntsAt w a len l) (ho : Below w.heap.size w w') : IntsAt w' a len l := by
  refine ⟨h.1, ?_⟩
  rcases h.2 with h | ⟨b, off, rfl, hb, hc⟩
  · exact .inl h
  · exact .inr ⟨b, off, rfl, Nat.lt_of_lt_of_le hb ho.size, fun i hi => by rw [ho.cell (p := ⟨b, off + i, none⟩) hb]; exact hc i hi⟩
theorem IntsAt.onto {p : Nat} {w w' : World} {a : Option Addr} {len : Nat} {l : List Int} (h : IntsAt w a len l) (ho : Onto p w w') (hp : 0 < len → ∀ x, a = some x → x.block ≠ p) : IntsAt w' a len l := by
  refine ⟨h.1, ?_⟩
  rcases h.2 with h | ⟨b, off, rfl, hb, hc⟩
  · exact .inl h
  · by_cases hl : 0 < len
    · exact .inr ⟨b, off, rfl, Nat.lt_of_lt_of_le hb ho.size, fun i hi => by rw [ho.cell (q := ⟨b, off + i, none⟩) (hp hl ⟨b, off, none⟩ rfl) hb]; exact hc i hi⟩
    · exact .inl (by omega)
theorem IntsAt.drewN {w : World} {a : Option Addr} {len : Nat} {l : List Int} (h : IntsAt w a len l) (n : Nat) : IntsAt (w.drewN n) a len l := h
theorem IntsAt.nil (w : World) (a : Option Addr) : IntsAt w a 0 [] := ⟨rfl, .inl rfl⟩
theorem IntsAt.take {w : World} {a : Option Addr} {len : Nat} {l : List Int} (h : IntsAt w a len l) (n : Nat) (hn : n ≤ len) : IntsAt w a n (l.take n) := by
  refine ⟨by simp [h.1]; omega, ?_⟩
  rcases h.2 with h0 | ⟨b, off, rfl, hb, hc⟩
  · exact .inl (by omega)
  · refine .inr ⟨b, off, rfl, hb, fun i hi => ?_⟩
    rw [hc i (by omega)]
    simp [List.getD_eq_getElem?_getD, List.getElem?_take, hi]
/-- A slice of numbers as the row's frame opens it. -/
theorem ints_of {w : World} {a : Option Addr} {len cap : Nat} {zs : List Int} (h : (a = none ∧ len = 0 ∧ cap = 0 ∧ zs = []) ∨
    ∃ x, a = some x ∧ len ≤ cap ∧ cap ≤ maxLen ∧ zs.length = cap ∧ (∀ i, i < zs.length → w.cell? (x.add i) = some (.int .i64 (zs.getD i 0))) ∧ ∀ n ∈ zs, (Lit.int .i64 n).wf = true) : IntsAt w a len (zs.take len) := by
  rcases h with ⟨h0, h1, _, rfl⟩ | ⟨⟨b, off, spot⟩, rfl, hl, hm, hz, hcell, hwz⟩
  · exact ⟨by simp [h1], .inl h1⟩
  · refine ⟨by simp; omega, ?_⟩
    by_cases h0 : len = 0
    · exact .inl h0
    · have hc := hcell 0 (by omega)
      have hspot : spot = none := by simpa [Addr.add] using World.cell?_spot hc
      subst hspot
      refine .inr ⟨b, off, rfl, cell_lt hc, fun i hi => ?_⟩
      have hci := hcell i (by omega)
      have e : (⟨b, off, none⟩ : Addr).add i = ⟨b, off + i, none⟩ := by
        by_cases hi0 : i = 0 <;> simp [Addr.add, hi0]
      rw [← e, hci]
      simp [List.getD_eq_getElem?_getD, List.getElem?_take, hi]

/-- The slice value v is a call's own: it begins at the head of a block from base on, and reads as l. -/
def Own (base : Nat) (w : World) (v : Value) (l : List Int) : Prop := w.ownsRow base 2 1 v l.length (l.map (Value.int .i64))
theorem Own.nil (base : Nat) (w : World) : Own base w (.slice none 0 0) [] := World.ownsRow_nil _ _ _ _
/-- Its shape, and that it reads as l. -/
theorem Own.shape {base : Nat} {w : World} {v : Value} {l : List Int} (h : Own base w v l) : ∃ a cap, v = .slice a l.length cap ∧ IntsAt w a l.length l ∧ l.length ≤ maxLen ∧ (∀ x, a = some x → base ≤ x.block ∧ x.block < w.heap.size) := by
  rcases h.2 with ⟨rfl, h0⟩ | ⟨g, cap, cur, rfl, hb, hg, hn, hm, hcs, ht⟩
  · exact ⟨none, 0, by rw [h0], ⟨rfl, .inl h0⟩, by omega, by simp⟩
  · have hlt : g < w.heap.size := (Array.getElem?_eq_some_iff.1 hg).1
    refine ⟨some ⟨g, 0, none⟩, cap, rfl, ⟨rfl, .inr ⟨g, 0, rfl, hlt, fun i hi => ?_⟩⟩, by omega, fun x hx => by cases hx; exact ⟨hb, hlt⟩⟩
    have := World.ownsRow.cells h (g := g) rfl i (.int .i64 (l.getD i 0)) (by simp [List.getD_eq_getElem?_getD, List.getElem?_eq_getElem hi])
    have e : (⟨g, 0, none⟩ : Addr).add i = ⟨g, 0 + i, none⟩ := by
      by_cases hi0 : i = 0 <;> simp [Addr.add, hi0]
    rw [← e]; exact this
theorem Own.mono {base base' : Nat} {w : World} {v : Value} {l : List Int} (h : Own base w v l) (hb : base' ≤ base) : Own base' w v l := by
  refine ⟨h.1, ?_⟩
  rcases h.2 with h0 | ⟨g, cap, cur, rfl, hb', rest⟩
  · exact .inl h0
  · exact .inr ⟨g, cap, cur, rfl, Nat.le_trans hb hb', rest⟩
theorem Own.kept {base : Nat} {w w' : World} {v : Value} {l : List Int} (h : Own base w v l) (hk : ∀ k, v.ownBlock = some k → w'.heap[k]? = w.heap[k]?) : Own base w' v l := by
  refine ⟨h.1, ?_⟩
  rcases h.2 with h0 | ⟨g, cap, cur, rfl, hb, hg, rest⟩
  · exact .inl h0
  · exact .inr ⟨g, cap, cur, rfl, hb, by rw [hk g rfl]; exact hg, rest⟩
theorem Own.lt {base : Nat} {w : World} {v : Value} {l : List Int} (h : Own base w v l) : ∀ k, v.ownBlock = some k → base ≤ k ∧ k < w.heap.size := World.ownsRow.lt h
theorem Own.below {base : Nat} {w w' : World} {v : Value} {l : List Int} (h : Own base w v l) (hb : Below w.heap.size w w') : Own base w' v l :=
  h.kept fun k hk => hb.block k (h.lt k hk).2
theorem Own.onto {base p : Nat} {w w' : World} {v : Value} {l : List Int} (h : Own base w v l) (ho : Onto p w w') (hp : v.ownBlock ≠ some p) : Own base w' v l :=
  h.kept fun k hk => ho.block k (fun e => hp (by rw [hk, e])) (h.lt k hk).2
theorem Own.drewN {base : Nat} {w : World} {v : Value} {l : List Int} (h : Own base w v l) (n : Nat) : Own base (w.drewN n) v l := h
theorem below_drewN {B : Nat} {w w' : World} (h : Below B w w') (n : Nat) : Below B w (w'.drewN n) := ⟨h.os, h.tape, h.output, h.size, h.block⟩

theorem drew_below {w w' : World} {n : Nat} (h : w' = w.drewN n) : Below w.heap.size w w' := by rw [h]; exact below_drewN (Below.refl _ _) n

theorem getD_take {l : List Int} {k : Nat} (h : k < l.length) : l.take (k + 1) = l.take k ++ [l.getD k 0] := by
  rw [List.take_succ_eq_append_getElem h]
  simp [List.getD_eq_getElem?_getD, List.getElem?_eq_getElem h]

/-- The slice value v, whosever it is, reads as l. -/
def Sl (w : World) (v : Value) (l : List Int) : Prop :=
  ∃ a cap, v = .slice a l.length cap ∧ IntsAt w a l.length l ∧ l.length ≤ cap ∧ cap ≤ maxLen ∧ (a = none → l.length = 0 ∧ cap = 0)
theorem sl_of {w : World} {a : Option Addr} {len cap : Nat} {zs : List Int} (h : (a = none ∧ len = 0 ∧ cap = 0 ∧ zs = []) ∨
    ∃ x, a = some x ∧ len ≤ cap ∧ cap ≤ maxLen ∧ zs.length = cap ∧ (∀ i, i < zs.length → w.cell? (x.add i) = some (.int .i64 (zs.getD i 0))) ∧ ∀ n ∈ zs, (Lit.int .i64 n).wf = true) : Sl w (.slice a len cap) (zs.take len) := by
  have hi := ints_of h
  have hl : (zs.take len).length = len := hi.1
  refine ⟨a, cap, by rw [hl], by rw [hl]; exact hi, ?_⟩
  rw [hl]
  rcases h with ⟨rfl, rfl, rfl, rfl⟩ | ⟨x, rfl, h1, h2, _⟩
  · exact ⟨Nat.le_refl _, by decide, fun _ => ⟨rfl, rfl⟩⟩
  · exact ⟨h1, h2, by simp⟩
theorem Sl.below {w w' : World} {v : Value} {l : List Int} (h : Sl w v l) (hb : Below w.heap.size w w') : Sl w' v l := by
  obtain ⟨a, cap, rfl, h1, h2⟩ := h
  exact ⟨a, cap, rfl, h1.below hb, h2⟩
theorem Sl.drewN {w : World} {v : Value} {l : List Int} (h : Sl w v l) (n : Nat) : Sl (w.drewN n) v l := h
theorem Own.sl {base : Nat} {w : World} {v : Value} {l : List Int} (h : Own base w v l) : Sl w v l := by
  obtain ⟨a, cap, hv, hi, hm, hx⟩ := h.shape
  refine ⟨a, cap, hv, hi, ?_⟩
  rcases h.2 with ⟨rfl, h0⟩ | ⟨g, cap', cur, rfl, hb, hg, hn, hm', hcs, ht⟩
  · simp only [Value.slice.injEq] at hv
    obtain ⟨rfl, h1, rfl⟩ := hv
    exact ⟨by omega, by decide, fun _ => ⟨h0, rfl⟩⟩
  · simp only [Value.slice.injEq] at hv
    obtain ⟨rfl, _, rfl⟩ := hv
    exact ⟨hn, hm', by simp⟩
theorem Sl.lt {w : World} {v : Value} {l : List Int} (h : Sl w v l) (h0 : 0 < l.length) : ∀ k, v.ownBlock = some k → k < w.heap.size := by
  obtain ⟨a, cap, rfl, h1, h2⟩ := h
  rcases h1.2 with h | ⟨b, off, rfl, hb, hc⟩
  · omega
  · intro k hk
    simp [Value.ownBlock] at hk
    omega
theorem Sl.grown {w w' : World} {v : Value} {l : List Int} {row : Option Nat} (h : Sl w v l) (hg : w.grownBy w' row) (hr : 0 < l.length → ∀ k, row = some k → v.ownBlock ≠ some k) : Sl w' v l := by
  obtain ⟨a, cap, rfl, h1, h2⟩ := h
  refine ⟨a, cap, rfl, ⟨h1.1, ?_⟩, h2⟩
  rcases h1.2 with h0 | ⟨b, off, rfl, hb, hc⟩
  · exact .inl h0
  · by_cases h0 : 0 < l.length
    · refine .inr ⟨b, off, rfl, Nat.lt_of_lt_of_le hb hg.size, fun i hi => ?_⟩
      rw [World.cell?_of_block (w := w) (a := ⟨b, off + i, none⟩) (hg.block b hb (fun e => hr h0 b e.symm rfl))]
      exact hc i hi
    · exact .inl (by omega)
theorem Own.grown {base : Nat} {w w' : World} {v : Value} {l : List Int} {row : Option Nat} (h : Own base w v l) (hg : w.grownBy w' row) (hr : ∀ k, row = some k → v.ownBlock ≠ some k) : Own base w' v l :=
  h.kept fun k hk => hg.block k (h.lt k hk).2 (fun e => hr k e.symm hk)

theorem info64 : (Try.prog.info? 2).map (fun i => (i.zero, i.size, i.bytes)) = some (some (.int .i64 0), 1, 8) := by kernel_rfl
theorem und64 : Try.prog.underlying 87 = some (.slice 2) := by kernel_rfl

/-- append, onto a slice that is the call's own, of a slice that reads as news. -/
theorem app {w : World} {ops : Array Oper} {rest : List Oper} {o : Oper} {a : Act} {Q : Exit → Act → World → Prop} (hgd : o.guard = none) (s x : Operand)
    (ho : o.op = .call { callee := .builtin .append, args := #[s, x], argTypes := #[87, 87] })
    (base : Nat) (l news : List Int) (hown : Own base w (a.eval s) l) (hn : Sl w (a.eval x) news) (hbd : l.length + news.length ≤ 17592186044416) (hbase : base ≤ w.heap.size)
    (h : ∀ v' w', Own base w' v' (l ++ news) → w.grownBy w' (a.eval s).ownBlock → wpList Try.prog ops Q rest (a.put o.dst v') w') : wpList Try.prog ops Q (o :: rest) a w := by
  obtain ⟨i0, hi, hz0, hz1, hz2⟩ := info_parts info64
  obtain ⟨ao, cap, hx, hat, hlc, hcm, hnil⟩ := hn
  cases ao with
  | none =>
    obtain ⟨h0, rfl⟩ := hnil rfl
    have : news = [] := List.eq_nil_of_length_eq_zero h0
    subst this
    refine wpList_append_own_none hgd s x 87 ho base 2 i0 1 und64 hi (a.eval s) l.length (l.map (Value.int .i64)) rfl hown hx ?_
    have hh := h (a.eval s) w (by simpa using hown) (World.grownBy.refl w _)
    exact hh
  | some ad =>
    refine wpList_append_own w hgd s x 87 ho base 2 i0 (.int .i64 0) 1 8 und64 hi hz0 hz1 hz2 rfl (by decide) (a.eval s) l.length (l.map (Value.int .i64)) rfl hown ad news.length cap (news.map (Value.int .i64)) hx (by simp) ?_ (ints_oneCell _ _) (by unfold maxLen; omega) (by omega) hbase ?_
    · intro j u hj
      have hjl : j < news.length := by
        have := (List.getElem?_eq_some_iff.1 hj).1
        simpa using this
      rcases hat.2 with h0 | ⟨b, off, hb, hbs, hc⟩
      · omega
      · cases hb
        have hcj := hc j hjl
        have e : (⟨b, off, none⟩ : Addr).add j = ⟨b, off + j, none⟩ := by
          by_cases hi0 : j = 0 <;> simp [Addr.add, hi0]
        rw [e, hcj]
        simp [List.getElem?_eq_getElem hjl] at hj
        rw [← hj, List.getD_eq_getElem?_getD, List.getElem?_eq_getElem hjl]
        rfl
    · intro v' w' h2 h3 _
      refine h v' w' ?_ h3
      unfold Own
      rw [List.length_append, List.map_append]
      exact h2
/-- A slice literal in a new block. -/
theorem own_lit (base : Nat) (w : World) (cs : Array Value) (l : List Int) (hc : cs.toList = l.map (Value.int .i64)) (hm : l.length ≤ maxLen) (hb : base ≤ w.heap.size) :
    Own base (w.alloc (.cells cs 2)) (.slice (some ⟨w.heap.size, 0, none⟩) l.length l.length) l := by
  have hs : cs.size = l.length := by rw [← Array.length_toList, hc, List.length_map]
  exact ⟨by simp, .inr ⟨w.heap.size, l.length, cs, rfl, hb, heap_alloc_new w _, Nat.le_refl _, hm, by omega, by rw [← hc, List.take_of_length_le (by simp; omega)]⟩⟩
/-- The same of a literal that is read. -/
theorem sl_lit (w : World) (cs : Array Value) (l : List Int) (hc : cs.toList = l.map (Value.int .i64)) (hm : l.length ≤ maxLen) :
    Sl (w.alloc (.cells cs 2)) (.slice (some ⟨w.heap.size, 0, none⟩) l.length l.length) l := (own_lit 0 w cs l hc hm (Nat.zero_le _)).sl
theorem grown_trans {a b c : World} {row : Option Nat} (h : a.grownBy b row) (k : b.grownBy c row) : a.grownBy c row :=
  ⟨k.os.trans h.os, k.tape.trans h.tape, k.output.trans h.output, Nat.le_trans h.size k.size, fun i hi hr => (k.block i (Nat.lt_of_lt_of_le hi h.size) hr).trans (h.block i hi hr)⟩
/-- What is the call's own and not empty has a block. -/
theorem Own.block {base : Nat} {w : World} {v : Value} {l : List Int} (h : Own base w v l) (h0 : 0 < l.length) : ∃ g cap, v = .slice (some ⟨g, 0, none⟩) l.length cap ∧ base ≤ g ∧ g < w.heap.size ∧ l.length ≤ cap ∧ cap ≤ maxLen := by
  have hlt := h.lt
  rcases h.2 with ⟨rfl, hn⟩ | ⟨g, cap, cur, rfl, hb, hg, hn, hm, hcs, ht⟩
  · omega
  · exact ⟨g, cap, rfl, hb, (hlt g rfl).2, hn, hm⟩
/-- A store into a slice that is the call's own. -/
theorem Own.store {base g n cap : Nat} {w : World} {l : List Int} (h : Own base w (.slice (some ⟨g, 0, none⟩) n cap) l) (j : Nat) (x : Int) :
    Own base (w.setCell ⟨g, j, none⟩ (.int .i64 x)) (.slice (some ⟨g, 0, none⟩) n cap) (l.set j x) ∧ w.grownBy (w.setCell ⟨g, j, none⟩ (.int .i64 x)) (some g) := by
  have hn : l.length = n := by
    obtain ⟨a, c, he, _⟩ := h.shape
    simp only [Value.slice.injEq] at he
    exact he.2.1.symm
  subst hn
  have hs := World.ownsRow.stored h j (.int .i64 x)
  refine ⟨?_, hs.2⟩
  unfold Own
  rw [List.length_set, List.map_set]
  exact hs.1
theorem Own.cellAt {base g n cap : Nat} {w : World} {l : List Int} (h : Own base w (.slice (some ⟨g, 0, none⟩) n cap) l) {j : Nat} (hj : j < l.length) : w.cell? ⟨g, j, none⟩ = some (.int .i64 (l.getD j 0)) := by
  have hn : l.length = n := by
    obtain ⟨a, c, he, _⟩ := h.shape
    simp only [Value.slice.injEq] at he
    exact he.2.1.symm
  subst hn
  rw [World.ownsRow.cellAt h j (by omega)]
  simp [List.getD_eq_getElem?_getD, List.getElem?_eq_getElem hj]
theorem Own.free {base g n cap : Nat} {w : World} {l : List Int} (h : Own base w (.slice (some ⟨g, 0, none⟩) n cap) l) (j : Nat) : w.frozen? ⟨g, j, none⟩ = false := by
  have hn : l.length = n := by
    obtain ⟨a, c, he, _⟩ := h.shape
    simp only [Value.slice.injEq] at he
    exact he.2.1.symm
  subst hn
  exact World.ownsRow.frozenAt h j
/-- make([]int64, n). -/
theorem make64 {w : World} {ops : Array Oper} {rest : List Oper} {o : Oper} {a : Act} {Q : Exit → Act → World → Prop} (hgd : o.guard = none) (s x : Operand)
    (ho : o.op = .makeSlice 87 s x) (base n : Nat) (z : Int) (hz : z = (n : Int)) (hs : a.eval s = .int .i64 z) (hx : a.eval x = .int .i64 z) (hbd : n ≤ 17592186044416) (hbase : base ≤ w.heap.size)
    (h : ∀ w', Own base w' (.slice (some ⟨w.heap.size, 0, none⟩) n n) (List.replicate n 0) → w.grownBy w' none → wpList Try.prog ops Q rest (a.put o.dst (.slice (some ⟨w.heap.size, 0, none⟩) n n)) w') : wpList Try.prog ops Q (o :: rest) a w := by
  obtain ⟨i0, hi, hz0, hz1, hz2⟩ := info_parts info64
  refine wpList_make_full w hgd s x 87 ho base 2 i0 (.int .i64 0) 1 und64 hi hz0 hz1 .i64 .i64 z z n hs hx hz hz (by rw [hz2]; omega) (by unfold maxLen; omega) hbase ?_
  intro w' h1 h2
  refine h w' ?_ h2
  unfold Own
  have e : (madeCells (Value.int .i64 0).cells (n * 1)).toList = List.replicate n (Value.int .i64 0) := by
    have := toList_madeCells_one (.int .i64 0) n
    rw [Nat.mul_one]; exact this
  rw [e] at h1
  simpa using h1
end Go.Proofs.Ytggfjghcgacdnaa.Slc
