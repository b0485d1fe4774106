/-
  What the laws' drawing function for texts answers: some text, hardly longer than the one that it bends; it writes into its cursor and into new memory alone.
-/
import Derived.Test.YtifkcojcedgepaaDoorDraw
import Derived.Test.YtifkcojcedgepaaDoorSlc
import Derived.Laws.IdiomStrings
import Derived.Laws.BytesArg
import Derived.Deep.AppendLies
import Derived.Deep.RegionHeld3
import Derived.Deep.DrawnRows
namespace Go.Proofs.YtifkcojcedgepaaDoor.Bend
open Go.ChangeShapes Go.WideShapes Go.RowKit Base Draw Slc
set_option linter.unusedVariables false
attribute [local go_sem ↓] Go.wp_at_zero Go.wp_at_succ

/-- A slice of bytes at the head of a block from base on, that may be written. -/
def Bts (base : Nat) (w : World) (v : Value) (n : Nat) : Prop :=
  ∃ g cap, v = .slice (some ⟨g, 0, none⟩) n cap ∧ base ≤ g ∧ g < w.heap.size ∧ n ≤ cap ∧ ∀ i, i < n → (∃ z : Int, w.cell? ⟨g, i, none⟩ = some (.int .u8 z)) ∧ w.frozen? ⟨g, i, none⟩ = false
theorem Bts.kept {base n : Nat} {w w' : World} {v : Value} (h : Bts base w v n) (hs : w.heap.size ≤ w'.heap.size) (hk : ∀ k, v.ownBlock = some k → w'.heap[k]? = w.heap[k]?) : Bts base w' v n := by
  obtain ⟨g, cap, rfl, hb, hl, hn, hc⟩ := h
  refine ⟨g, cap, rfl, hb, Nat.lt_of_lt_of_le hl hs, hn, fun i hi => ?_⟩
  obtain ⟨⟨z, hz⟩, hf⟩ := hc i hi
  have e := hk g rfl
  exact ⟨⟨z, by rw [World.cell?_of_block (w := w) (a := ⟨g, i, none⟩) e]; exact hz⟩, by rw [World.frozen?_of_block (w := w) (a := ⟨g, i, none⟩) e]; exact hf⟩
theorem Bts.below {base n : Nat} {w w' : World} {v : Value} (h : Bts base w v n) (hb : Below w.heap.size w w') : Bts base w' v n :=
  h.kept hb.size fun k hk => hb.block k (by obtain ⟨g, cap, rfl, h1, h2, _⟩ := h; cases hk; exact h2)
theorem Bts.onto {base n p : Nat} {w w' : World} {v : Value} (h : Bts base w v n) (ho : Onto p w w') (hp : p < base) : Bts base w' v n :=
  h.kept ho.size fun k hk => by
    obtain ⟨g, cap, rfl, h1, h2, _⟩ := h
    cases hk
    exact ho.block g (by omega) h2
theorem Bts.take {base n : Nat} {w : World} {g cap k : Nat} (h : Bts base w (.slice (some ⟨g, 0, none⟩) n cap) n) (hk : k ≤ n) : Bts base w (.slice (some ⟨g, 0, none⟩) k cap) k := by
  obtain ⟨g', cap', hv, hb, hl, hn, hc⟩ := h
  cases hv
  exact ⟨g, cap, rfl, hb, hl, by omega, fun i hi => hc i (by omega)⟩
theorem Bts.set {base n : Nat} {w : World} {g cap : Nat} (h : Bts base w (.slice (some ⟨g, 0, none⟩) n cap) n) (j : Nat) (z : Int) (hj : j < n) : Bts base (w.setCell ⟨g, j, none⟩ (.int .u8 z)) (.slice (some ⟨g, 0, none⟩) n cap) n := by
  obtain ⟨g', cap', hv, hb, hl, hn, hc⟩ := h
  cases hv
  refine ⟨g, cap, rfl, hb, by simpa [World.setCell] using hl, hn, fun i hi => ?_⟩
  obtain ⟨⟨y, hy⟩, hf⟩ := hc i hi
  refine ⟨?_, by rw [World.frozen?_setCell]; exact hf⟩
  by_cases hij : i = j
  · subst hij
    exact ⟨z, World.cell?_setCell_same _ _ _ hy⟩
  · exact ⟨y, by rw [World.cell?_setCell_other _ _ _ _ (by simp)]; exact hy⟩

theorem info8 : (Tryd.prog.info? 5).map (fun i => (i.zero, i.size, i.bytes)) = some (some (.int .u8 0), 1, 1) := by kernel_rfl
theorem und8 : Tryd.prog.underlying 22 = some (.slice 5) := by kernel_rfl
theorem und8e : Tryd.prog.underlying 5 = some (.int .u8) := by kernel_rfl
theorem undStr : Tryd.prog.underlying 9 = some .string := by kernel_rfl

/-- New memory that append may go on in: not nil. -/
def OwnB (base : Nat) (w : World) (v : Value) (n : Nat) : Prop := v ≠ .slice none 0 0 ∧ ∃ xs : List Int, w.ownsRow base 5 1 v n (xs.map (Value.int .u8))
/-- Bytes that are read, wherever they lie. -/
def Src (w : World) (v : Value) (m : Nat) : Prop := ∃ ad cap, v = .slice (some ad) m cap ∧ ∃ news : List Int, news.length = m ∧ ∀ j u, (news.map (Value.int .u8))[j]? = some u → w.cell? (ad.add j) = some u
theorem OwnB.bts {base n : Nat} {w : World} {v : Value} (h : OwnB base w v n) : Bts base w v n := by
  obtain ⟨hne, xs, h⟩ := h
  have hx : xs.length = n := by simpa using h.1
  have hlt := World.ownsRow.lt h
  rcases h.2 with ⟨h0, _⟩ | ⟨g, cap, cur, rfl, hb, hg, hn, hm, hcs, ht⟩
  · exact absurd h0 hne
  · refine ⟨g, cap, rfl, hb, (hlt g rfl).2, hn, fun i hi => ⟨⟨xs.getD i 0, ?_⟩, World.ownsRow.frozenAt h i⟩⟩
    rw [World.ownsRow.cellAt h i (by omega)]
    simp [List.getD_eq_getElem?_getD, List.getElem?_eq_getElem (by omega : i < xs.length)]
/-- A piece of a slice of bytes, from its i-th on, m of them. -/
theorem Bts.src {base n : Nat} {w : World} {g cap : Nat} (h : Bts base w (.slice (some ⟨g, 0, none⟩) n cap) n) (i m c : Nat) (him : i + m ≤ n) : Src w (.slice (some ⟨g, i, none⟩) m c) m := by
  obtain ⟨g', cap', hv, hb, hl, hn, hc⟩ := h
  cases hv
  refine ⟨⟨g, i, none⟩, c, rfl, (List.range m).map fun j => match w.cell? ⟨g, i + j, none⟩ with | some (.int .u8 z) => z | _ => 0, by simp, fun j u hj => ?_⟩
  have hjm : j < m := by
    have := (List.getElem?_eq_some_iff.1 hj).1
    simpa using this
  obtain ⟨⟨z, hz⟩, _⟩ := hc (i + j) (by omega)
  have e : (⟨g, i, none⟩ : Addr).add j = ⟨g, i + j, none⟩ := by
    by_cases hi0 : j = 0 <;> simp [Addr.add, hi0]
  rw [e, hz]
  simp [List.getElem?_range hjm, hz] at hj
  rw [← hj]
theorem Src.kept {w w' : World} {g i m c : Nat} (h : Src w (.slice (some ⟨g, i, none⟩) m c) m) (hk : w'.heap[g]? = w.heap[g]?) : Src w' (.slice (some ⟨g, i, none⟩) m c) m := by
  obtain ⟨ad, cap, hv, news, hn, hc⟩ := h
  cases hv
  refine ⟨_, _, rfl, news, hn, fun j u hj => ?_⟩
  rw [← hc j u hj]
  have e : (⟨g, i, none⟩ : Addr).add j = ⟨g, i + j, none⟩ := by
    by_cases hi0 : j = 0 <;> simp [Addr.add, hi0]
  rw [e]
  exact World.cell?_of_block (w := w) (a := ⟨g, i + j, none⟩) hk
/-- append at a step of a region that draws its order. -/
theorem step_app {w : World} {ops : Array Oper} {o : Oper} {a : Act} {K : Act → World → Prop} {Q : Exit → Act → World → Prop} {E : Prop} (hgd : o.guard = none) (s x : Operand)
    (ho : o.op = .call { callee := .builtin .append, args := #[s, x], argTypes := #[22, 22] })
    (base n m : Nat) (vs vx : Value) (hvs : a.eval s = vs) (hvx : a.eval x = vx) (hown : OwnB base w vs n) (hsrc : Src w vx m) (hbd : n + m ≤ 17592186044416) (hbase : base ≤ w.heap.size) (q : Nat) (hq : n + m = q)
    (h : ∀ g cap w', OwnB base w' (.slice (some ⟨g, 0, none⟩) q cap) q → w.grownBy w' vs.ownBlock → K (a.put o.dst (.slice (some ⟨g, 0, none⟩) q cap)) w') :
    if Region.wanted o (yielded ops a.tmps) = true then Oper.wp Tryd.prog o a w K Q else E := by
  subst hq
  have hw : Region.wanted o (yielded ops a.tmps) = true := by simp [Region.wanted, hgd]
  rw [if_pos hw]
  obtain ⟨i0, hi, hz0, hz1, hz2⟩ := info_parts info8
  obtain ⟨hne, xs, hown⟩ := hown
  obtain ⟨ad, cap, rfl, news, hn, hc⟩ := hsrc
  refine wp_append_own w s x 22 ho base 5 i0 (.int .u8 0) 1 1 und8 hi hz0 hz1 hz2 rfl (by decide) vs n _ hvs hown ad m cap (news.map (Value.int .u8)) hvx (by simp [hn]) hc (ints_oneCell _ _) (by unfold maxLen; omega) (by omega) hbase ?_
  intro v' w' h2 h3 h4
  have hne' : v' ≠ .slice none 0 0 := fun e => hne ((h4.1 e).1)
  have h2' := h2
  rcases h2.2 with ⟨h0, _⟩ | ⟨g, cap, cur, rfl, _⟩
  · exact absurd h0 hne'
  · exact h g cap w' ⟨hne', xs ++ news, by rw [List.map_append]; exact h2'⟩ h3

theorem ownB_new (base : Nat) (w : World) (hb : base ≤ w.heap.size) : OwnB base (w.alloc (.cells #[] 5)).drew (.slice (some ⟨w.heap.size, 0, none⟩) 0 0) 0 :=
  ⟨by simp, [], by simp, .inr ⟨w.heap.size, 0, #[], rfl, hb, heap_alloc_new w _, Nat.le_refl _, Nat.zero_le _, by simp, by simp⟩⟩
theorem src_new {base n : Nat} {w : World} {g cap : Nat} (h : Bts base w (.slice (some ⟨g, 0, none⟩) n cap) n) (o : Obj) (i m c : Nat) (him : i + m ≤ n) : Src (w.alloc o).drew (.slice (some ⟨g, i, none⟩) m c) m :=
  (h.src i m c him).kept (by
    obtain ⟨g', cap', hv, hb, hl, hn, hc⟩ := h
    cases hv
    exact Below.heap_alloc w o g hl)
/-- The rest of a slice of bytes. -/
theorem src_tail {base n : Nat} {w w' : World} {g cap : Nat} (h : Bts base w (.slice (some ⟨g, 0, none⟩) n cap) n) (hk : w'.heap[g]? = w.heap[g]?) (i : Nat) (hi : i ≤ n) :
    Src w' (.slice (if cap = i then some ⟨g, 0, none⟩ else some ⟨g, i, none⟩) (n - i) (cap - i)) (n - i) := by
  obtain ⟨g', cap', hv, hb, hl, hn, hc⟩ := id h
  cases hv
  split
  · rename_i he
    have e : n - i = 0 := by omega
    rw [e]
    exact (h.src 0 0 _ (by omega)).kept hk
  · exact (h.src i (n - i) _ (by omega)).kept hk
theorem drawn_drew {w0 w : World} {p : Nat} {a : Option Addr} {len cap : Nat} (h : Drawn p a len cap w0 w) : Drawn p a len cap w0 w.drew :=
  ⟨h.onto.drew, h.cur.c0, h.cur.c1, h.cur.c2, h.cur.f, h.cur.code, h.cur.apart, h.cur.few⟩

/-- '[]byte(s)': a new block of the text's bytes. -/
theorem bytes_new (w : World) (s : ByteArray) : ∃ cap w', (convert 9 22 (.string s)).run Tryd.prog w = .ok (.slice (some ⟨w.heap.size, 0, none⟩) s.size cap) w' ∧ Bts w.heap.size w' (.slice (some ⟨w.heap.size, 0, none⟩) s.size cap) s.size ∧ Below w.heap.size w w' := by
  refine ⟨_, _, run_bytes_of_string w _ _ 5 s undStr und8 und8e, ?_, ?_⟩
  · have hn : (w.drew.alloc (.cells (bytesRow s (grownCap w s.size 0 5)) 5 ((bytesRow s (grownCap w s.size 0 5)).size, (bytesRow s (grownCap w s.size 0 5)).size + 1))).heap[w.heap.size]? = some (.cells (bytesRow s (grownCap w s.size 0 5)) 5 ((bytesRow s (grownCap w s.size 0 5)).size, (bytesRow s (grownCap w s.size 0 5)).size + 1)) := heap_alloc_new w.drew _
    refine ⟨w.heap.size, _, rfl, Nat.le_refl _, by simp, grownCap_ge _ _ _ _, fun i hi => ⟨⟨(s.data.toList.getD i 0).toNat, ?_⟩, ?_⟩⟩
    · rw [cell_of_row _ _ i _ _ _ hn]
      have h2 : i < (Array.map (fun b : UInt8 => Value.int .u8 b.toNat) s.data).size := by simpa using hi
      unfold bytesRow
      rw [Array.getElem?_append_left h2]
      have h3 : i < s.data.size := by simpa using hi
      have h4 : s.data[i]? = some s.data[i] := Array.getElem?_eq_getElem h3
      simp
      exact ⟨s.data[i], h4, by rw [h4]; rfl⟩
    · have hr : i < (bytesRow s (grownCap w s.size 0 5)).size := by
        unfold bytesRow
        simp
        omega
      simp only [World.frozen?, hn]
      simp
      omega
  · exact ((Below.refl w.heap.size w).drew).alloc (Nat.le_refl _) _

/-- A store into a block that was not there when the drawing began. -/
theorem drawn_set {w0 w : World} {p : Nat} {a : Option Addr} {len cap : Nat} (h : Drawn p a len cap w0 w) (hp : p < w0.heap.size) (hcode : 0 < len → ∀ x, a = some x → x.block < w0.heap.size) {q : Addr} (hq : w0.heap.size ≤ q.block) (u : Value) : Drawn p a len cap w0 (w.setCell q u) :=
  ⟨h.onto.setNew hq u, h.cur.onto ((Onto.refl q.block w).setCell rfl u) (by omega) (fun h0 x hx => by have := hcode h0 x hx; omega)⟩
theorem drawn_grow {w0 w w' : World} {p : Nat} {a : Option Addr} {len cap : Nat} {row : Nat} (h : Drawn p a len cap w0 w) (hp : p < w0.heap.size) (hcode : 0 < len → ∀ x, a = some x → x.block < w0.heap.size) (hg : w.grownBy w' (some row)) (hr : w0.heap.size ≤ row) : Drawn p a len cap w0 w' := by
  have ho : Onto row w w' := ⟨hg.os, hg.tape, hg.output, hg.size, fun k hk hl => hg.block k hl (fun e => hk (by cases e; rfl))⟩
  refine ⟨⟨hg.os.trans h.onto.os, hg.tape.trans h.onto.tape, hg.output.trans h.onto.output, Nat.le_trans h.onto.size hg.size, fun k hk hl => ?_⟩, h.cur.onto ho (by omega) (fun h0 x hx => by have := hcode h0 x hx; omega)⟩
  rw [ho.block k (by omega) (Nat.lt_of_lt_of_le hl h.onto.size)]
  exact h.onto.block k hk hl
theorem bts_str {base : Nat} {w : World} {g m cb : Nat} (h : Bts base w (.slice (some ⟨g, 0, none⟩) m cb) m) : ∃ r : ByteArray, r.size = m ∧ (convert 22 9 (.slice (some ⟨g, 0, none⟩) m cb)).run Tryd.prog w = .ok (.string r) w := by
  obtain ⟨g', cap', hv, hb, hl, hn, hc⟩ := h
  cases hv
  refine ⟨_, ?_, run_convert_bytes_arg w 22 5 und8 und8e g 0 m cb ((List.range m).map fun j => match w.cell? ⟨g, j, none⟩ with | some (.int .u8 z) => z | _ => 0) (by simp) (fun i hi => ?_) 9 undStr⟩
  · rw [strOfNums_size]; simp
  · obtain ⟨⟨z, hz⟩, _⟩ := hc i hi
    rw [Nat.zero_add, hz]
    simp [List.getD_eq_getElem?_getD, List.getElem?_range hi, hz]
/-- In the midst of a bending: the cursor stands, and the slice v of m bytes. -/
structure St (p : Nat) (a : Option Addr) (len cap : Nat) (w : World) (g m cb : Nat) (w' : World) : Prop where
  drawn : Drawn p a len cap w w'
  bts : Bts w.heap.size w' (.slice (some ⟨g, 0, none⟩) m cb) m
  lt : p < w.heap.size
  code : 0 < len → ∀ x, a = some x → x.block < w.heap.size
theorem St.g0 {p : Nat} {a : Option Addr} {len cap : Nat} {w : World} {g m cb : Nat} {w' : World} (h : St p a len cap w g m cb w') : w.heap.size ≤ g ∧ g < w'.heap.size := by
  obtain ⟨g', cap', hv, hb, hl, hn, hc⟩ := h.bts
  cases hv
  exact ⟨hb, hl⟩
theorem St.below {p : Nat} {a : Option Addr} {len cap : Nat} {w : World} {g m cb : Nat} {w' w'' : World} (h : St p a len cap w g m cb w') (hb : Below w'.heap.size w' w'') : St p a len cap w g m cb w'' :=
  ⟨h.drawn.below hb, h.bts.below hb, h.lt, h.code⟩
theorem St.made {p : Nat} {a : Option Addr} {len cap : Nat} {w : World} {g m cb : Nat} {w' : World} (h : St p a len cap w g m cb w') (o : Obj) : St p a len cap w g m cb (w'.alloc o).drew :=
  h.below (((Below.refl _ _).alloc (Nat.le_refl _) o).drew)
theorem St.made' {p : Nat} {a : Option Addr} {len cap : Nat} {w : World} {g m cb : Nat} {w' : World} (h : St p a len cap w g m cb w') (o : Obj) : St p a len cap w g m cb (w'.alloc o) :=
  h.below ((Below.refl _ _).alloc (Nat.le_refl _) o)
theorem St.drew {p : Nat} {a : Option Addr} {len cap : Nat} {w : World} {g m cb : Nat} {w' : World} (h : St p a len cap w g m cb w') : St p a len cap w g m cb w'.drew :=
  h.below ((Below.refl _ _).drew)
theorem St.onto {p : Nat} {a : Option Addr} {len cap : Nat} {w : World} {g m cb : Nat} {w' w'' : World} (h : St p a len cap w g m cb w') (ho : Onto p w' w'') (hd : Drawn p a len cap w w'') : St p a len cap w g m cb w'' :=
  ⟨hd, h.bts.onto ho h.lt, h.lt, h.code⟩
theorem St.grow {p : Nat} {a : Option Addr} {len cap : Nat} {w : World} {g m cb : Nat} {w' w'' : World} {row : Nat} (h : St p a len cap w g m cb w') (hg : w'.grownBy w'' (some row)) (hr : w.heap.size ≤ row) (hne : row ≠ g) : St p a len cap w g m cb w'' := by
  refine ⟨drawn_grow h.drawn h.lt h.code hg hr, h.bts.kept hg.size (fun k hk => ?_), h.lt, h.code⟩
  simp [Value.ownBlock] at hk
  subst hk
  exact hg.block g h.g0.2 (by simp; omega)
/-- Bytes of a block from base on that is not g's; append may go on in it. -/
def Mine (base g : Nat) (w : World) (b n c : Nat) : Prop := OwnB base w (.slice (some ⟨b, 0, none⟩) n c) n ∧ base ≤ b ∧ b < w.heap.size ∧ b ≠ g
theorem Mine.kept {base g b n c : Nat} {w w' : World} (h : Mine base g w b n c) (hs : w.heap.size ≤ w'.heap.size) (hk : w'.heap[b]? = w.heap[b]?) : Mine base g w' b n c := by
  obtain ⟨⟨hne, xs, h⟩, h1, h2, h3⟩ := h
  refine ⟨⟨hne, xs, h.1, ?_⟩, h1, by omega, h3⟩
  rcases h.2 with h0 | ⟨g', cap, cur, hv, hb, hg, rest⟩
  · exact .inl h0
  · cases hv
    exact .inr ⟨b, c, cur, rfl, hb, by rw [hk]; exact hg, rest⟩
theorem Mine.below {base g b n c : Nat} {w w' : World} (h : Mine base g w b n c) (hb : Below w.heap.size w w') : Mine base g w' b n c := h.kept hb.size (hb.block b h.2.2.1)
theorem Mine.made {base g b n c : Nat} {w : World} (h : Mine base g w b n c) (o : Obj) : Mine base g (w.alloc o).drew b n c := h.below (((Below.refl _ _).alloc (Nat.le_refl _) o).drew)
theorem Mine.made' {base g b n c : Nat} {w : World} (h : Mine base g w b n c) (o : Obj) : Mine base g (w.alloc o) b n c := h.below ((Below.refl _ _).alloc (Nat.le_refl _) o)
theorem Mine.onto {base g b n c p : Nat} {w w' : World} (h : Mine base g w b n c) (ho : Onto p w w') (hp : p < base) : Mine base g w' b n c := h.kept ho.size (ho.block b (by have := h.2.1; omega) h.2.2.1)
theorem Mine.new {p : Nat} {a : Option Addr} {len cap : Nat} {w : World} {g m cb : Nat} {w' : World} (h : St p a len cap w g m cb w') : Mine w.heap.size g (w'.alloc (.cells #[] 5)).drew w'.heap.size 0 0 :=
  ⟨ownB_new _ _ h.drawn.onto.size, h.drawn.onto.size, by simp, by have := h.g0.2; omega⟩
/-- One byte laid in a new block b. -/
def Lone (w : World) (b : Nat) : Prop := b < w.heap.size ∧ ∃ z : Int, w.cell? ⟨b, 0, none⟩ = some (.int .u8 z)
theorem Lone.kept {b : Nat} {w w' : World} (h : Lone w b) (hs : w.heap.size ≤ w'.heap.size) (hk : w'.heap[b]? = w.heap[b]?) : Lone w' b :=
  ⟨Nat.lt_of_lt_of_le h.1 hs, h.2.imp fun z hz => by rw [World.cell?_of_block (w := w) (a := ⟨b, 0, none⟩) hk]; exact hz⟩
theorem Lone.made {b : Nat} {w : World} (h : Lone w b) (o : Obj) : Lone (w.alloc o).drew b := h.kept (by simp) (Below.heap_alloc w o b h.1)
theorem Lone.new (w : World) (z : Int) : Lone (w.alloc (.cells #[.int .u8 z] 5)).drew w.heap.size := ⟨by simp, z, by show (w.alloc (.cells #[.int .u8 z] 5)).cell? ⟨w.heap.size, 0, none⟩ = _; rw [World.cell?_alloc_new]; rfl⟩
theorem Lone.new' (w : World) (z : Int) : Lone (w.alloc (.cells #[.int .u8 z] 5)) w.heap.size := Lone.new w z
theorem Lone.src {b : Nat} {w : World} (h : Lone w b) : Src w (.slice (some ⟨b, 0, none⟩) 1 1) 1 := by
  obtain ⟨h1, z, hz⟩ := h
  refine ⟨_, _, rfl, [z], rfl, fun j u hj => ?_⟩
  cases j with
  | zero => simpa [Addr.add] using hj ▸ hz
  | succ j => simp at hj
/-- append at a step of a region that draws its order, with what is known carried on. -/
theorem step_app2 {p : Nat} {aa : Option Addr} {len cap : Nat} {w : World} {g m cb : Nat} {w' : World} {ops : Array Oper} {o : Oper} {a : Act} {K : Act → World → Prop} {Q : Exit → Act → World → Prop} {E : Prop} (hst : St p aa len cap w g m cb w') (hgd : o.guard = none) (s x : Operand)
    (ho : o.op = .call { callee := .builtin .append, args := #[s, x], argTypes := #[22, 22] })
    (b n c l : Nat) (vx : Value) (hvs : a.eval s = .slice (some ⟨b, 0, none⟩) n c) (hvx : a.eval x = vx) (hown : Mine w.heap.size g w' b n c) (hsrc : Src w' vx l) (hbd : n + l ≤ 17592186044416) (q : Nat) (hq : n + l = q)
    (h : ∀ b' c' w'', Mine w.heap.size g w'' b' q c' → St p aa len cap w g m cb w'' → w'.grownBy w'' (some b) → K (a.put o.dst (.slice (some ⟨b', 0, none⟩) q c')) w'') :
    if Region.wanted o (yielded ops a.tmps) = true then Oper.wp Tryd.prog o a w' K Q else E := by
  subst hq
  have hw : Region.wanted o (yielded ops a.tmps) = true := by simp [Region.wanted, hgd]
  rw [if_pos hw]
  obtain ⟨i0, hi, hz0, hz1, hz2⟩ := info_parts info8
  obtain ⟨⟨hne, xs, hown⟩, hb1, hb2, hb3⟩ := hown
  obtain ⟨ad, cap, rfl, news, hn, hc⟩ := hsrc
  obtain ⟨v', w'', hr, h2, h3, h4, h5⟩ := run_append_own_at (P := Tryd.prog) w' w.heap.size 22 o.type 5 i0 (.int .u8 0) 1 1 und8 hi hz0 hz1 hz2 rfl (by decide) _ n _ hown ad l cap (news.map (Value.int .u8)) (by simp [hn]) hc (ints_oneCell _ _) (by unfold maxLen; omega) (by omega) hst.drawn.onto.size
  unfold Oper.wp execOp
  simp only [ho, resolve, invoke, builtin, Sem.run_bind, Sem.run_pure, Result.andThen_ok, List.map_toArray, List.map_cons, List.map_nil, hvs, hvx, hr]
  have hne' : v' ≠ .slice none 0 0 := fun e => hne ((h4.1 e).1)
  have h2' := h2
  have hl := World.ownsRow.lt h2
  rcases h2.2 with ⟨h0, _⟩ | ⟨g', cap, cur, rfl, hb', _⟩
  · exact absurd h0 hne'
  · have hbg : g' ≠ g := by
      have := hst.g0.2
      simp [Value.ownBlock] at h5
      omega
    exact h g' cap w'' ⟨⟨hne', xs ++ news, by rw [List.map_append]; exact h2'⟩, hb', (hl g' rfl).2, hbg⟩ (hst.grow h3 hb1 hb3) h3
theorem bend_any {w0 : World} {p : Nat} {a : Option Addr} {len cap : Nat} (s signs : ByteArray) (w : World) (h : Drawn p a len cap w0 w) (hs : s.size ≤ 1099511627776) (hg0 : 0 < signs.size) (hg1 : signs.size ≤ 1099511627776) :
    Calls Tryd.prog 24 #[.pointer (some ⟨p, 0, none⟩), .string s, .string signs] w fun e w' => ∃ r : ByteArray, e = .returned (.string r) ∧ r.size ≤ s.size + 2 ∧ Onto p w w' ∧ Drawn p a len cap w0 w' := by
  have HW : Hid (Drawn p a len cap w0 w) := h
  have hp := h.cur.lt
  have hd := h.cur.drawn
  have HK : Hid (0 < len → ∀ x, a = some x → x.block < w.heap.size) := h.cur.code.lt
  clear h
  obtain ⟨cb, w1, hconv, hb, hbel⟩ := bytes_new w s
  replace hd := hd.below hbel
  go_enter Tryd.func24, Tryd.ntmps24
  go_wp2_with (first
    | (go_at_call 22; refine (below_any _ _ hd (by omega)).mono ?_; rintro e w2 ⟨n, rfl, hn, ho, hd2⟩; replace hb := hb.onto ho hp))
  clear hconv hbel hd ho
  go_loopw [7, 8] (fun b n wr => ∃ (m r : Nat), n = .int .i64 (r : Int) ∧ r ≤ 2 ∧ Bts w.heap.size wr b m ∧ m + r ≤ s.size + 2 ∧ Drawn p a len cap w wr) (fun _ n _ => (intOf n).toNat)
  case atStart => exact ⟨s.size, n, rfl, by omega, hb, by omega, hd2⟩
  case round =>
    clear hd2 hb hn
    obtain ⟨m, r, rfl, hr, hb, hm, hd⟩ := hrel
    have HB : Hid (Bts w.heap.size wr u7 m) := hb
    obtain ⟨g, cb, rfl, hbg, hgl, hmc, hcell⟩ := hb
    by_cases hr0 : r = 0
    · subst hr0
      obtain ⟨t, ht, hconv⟩ := bts_str HB.out
      clear hcell
      go_wp2
      go_ret
      exact ⟨_, rfl, by omega, hd.onto, HW.out.onto.trans hd.onto, hd.cur⟩
    · by_cases hm0 : m = 0
      · subst hm0
        obtain ⟨t, ht, hconv⟩ := bts_str HB.out
        clear hcell
        have h1 : (0 : Int) < (r : Int) := by omega
        go_wp2
        go_ret
        exact ⟨_, rfl, by omega, hd.onto, HW.out.onto.trans hd.onto, hd.cur⟩
      · have h1 : (0 : Int) < (r : Int) := by omega
        have h2 : (0 : Int) < (m : Int) := by omega
        have HC : Hid (∀ i, i < m → (∃ z : Int, wr.cell? ⟨g, i, none⟩ = some (.int .u8 z)) ∧ wr.frozen? ⟨g, i, none⟩ = false) := hcell
        clear hcell
        go_wp2_with fail
        go_at_call 22
        refine (below_any _ _ hd (by omega)).mono ?_
        rintro e w2 ⟨k, rfl, hk, ho, hd2⟩
        replace HB : Hid (Bts _ _ _ _) := HB.out.onto ho hp
        clear hd HC ho
        go_wp2_with fail
        go_at_call 22
        refine (below_any _ _ hd2 (by omega)).mono ?_
        rintro e w3 ⟨j, rfl, hj, ho, hd⟩
        replace HB : Hid (Bts _ _ _ _) := HB.out.onto ho hp
        clear hd2 ho
        have hgl := HB.out
        obtain ⟨_, _, _, _, hgl, _, hcell⟩ := hgl
        rcases (show j = 0 ∨ j = 1 ∨ j = 2 ∨ j = 3 by omega) with rfl | rfl | rfl | rfl
        · clear hcell hgl
          go_wp2_with fail
          go_at_call 22
          refine (below_any _ _ hd (by omega)).mono ?_
          rintro e w4 ⟨x, rfl, hx, ho, hd4⟩
          replace HB : Hid (Bts _ _ _ _) := HB.out.onto ho hp
          clear hd ho
          obtain ⟨_, _, hv, _, hgl, _, hcell⟩ := HB.out
          cases hv
          obtain ⟨⟨z, hz⟩, hf⟩ := hcell k (by omega)
          clear hcell
          have hx0 : (0 : Int) ≤ (x : Int) := by omega
          go_wp2
          go_roundw
          case rel => exact ⟨m, r - 1, by congr 1; omega, by omega, HB.out.set k _ (by omega), by omega, drawn_set hd4 hp HK.out hbg _⟩
          case measure => simp [intOf]; omega
        · clear hcell
          have hk1 : (k : Int) ≤ (cb : Int) := by omega
          have hk0 : (0 : Int) ≤ (k : Int) := by omega
          go_wp2
          go_roundw
          case rel => exact ⟨k, r - 1, by congr 1; omega, by omega, HB.out.take (by omega), by omega, hd⟩
          case measure => simp [intOf]; omega
        · clear hcell
          have hk1 : (k : Int) ≤ (cb : Int) := by omega
          have hk0 : (0 : Int) ≤ (k : Int) := by omega
          obtain ⟨k1, hke⟩ : ∃ k1 : Nat, k1 = k + 1 := ⟨_, rfl⟩
          have hw : IntKind.i64.wrap ((k : Int) + 1) = (k1 : Int) := by simp [IntKind.wrap, IntKind.bits, IntKind.signed]; omega
          have hk2 : (0 : Int) ≤ (k1 : Int) := by omega
          have hk3 : (k1 : Int) ≤ (m : Int) := by omega
          have hk4 : (m : Int) ≤ (cb : Int) := by omega
          have HKE : Hid (k1 = k + 1) := hke
          clear hke
          go_wp2
          have HO1 : Hid (OwnB w.heap.size (w3.alloc (.cells #[] 5)).drew (.slice (some ⟨w3.heap.size, 0, none⟩) 0 0) 0) := ownB_new _ _ hd.onto.size
          have HS1 : Hid (∀ c, Src (w3.alloc (.cells #[] 5)).drew (.slice (some ⟨g, 0, none⟩) k c) k) := fun c => src_new HB.out _ 0 k c (by omega)
          have HB0 : Hid (w.heap.size ≤ (w3.alloc (.cells #[] 5)).drew.heap.size) := Nat.le_trans hd.onto.size (by simp)
          have HBD : Hid (0 + k ≤ 17592186044416) := by (show 0 + k ≤ 17592186044416); omega
          have HB2 : Hid (k + (m - k1) ≤ 17592186044416) := by (show k + (m - k1) ≤ 17592186044416); omega
          have HS2 : Hid (∀ w', (w3.alloc (.cells #[] 5)).drew.grownBy w' (some w3.heap.size) → Src w' (.slice (if cb = k1 then some ⟨g, 0, none⟩ else some ⟨g, k1, none⟩) (m - k1) (cb - k1)) (m - k1)) := fun w' hg =>
            src_tail HB.out (by rw [hg.block g (by simp; omega) (by simp; omega)]; exact Below.heap_alloc w3 _ g hgl) k1 (by omega)
          go_region_held3 (fun w' => True) (trivial) (first
            | ((refine step_app (by rfl) (.tmp 47) (.tmp 50) (by rfl) w.heap.size 0 k _ _ (by rfl) (by rfl) HO1.out (HS1.out _) HBD.out HB0.out k (Nat.zero_add k) ?_; intro g2 cap2 w5 hown2 hgrow2))
            | ((refine step_app (by rfl) (.tmp 51) (.tmp 55) (by rfl) w.heap.size k (m - k1) _ _ (by rfl) (by rfl) hown2 (HS2.out _ hgrow2) HB2.out (Nat.le_trans HB0.out hgrow2.size) (k + (m - k1)) rfl ?_; intro g3 cap3 w6 hown3 hgrow3)))
          go_wp2
          have HKE' := HKE.out
          have hg2 : w.heap.size ≤ g2 := by
            obtain ⟨_, _, hv, hb, _⟩ := hown2.bts
            cases hv
            exact hb
          go_roundw
          case rel => exact ⟨k + (m - k1), r - 1, by congr 1; omega, by omega, hown3.bts, by omega, drawn_grow (drawn_grow (drawn_drew (hd.alloc _)) hp HK.out hgrow2 hd.onto.size) hp HK.out hgrow3 hg2⟩
          case measure => simp [intOf]; omega
        · clear hcell
          have hk1 : (k : Int) ≤ (cb : Int) := by omega
          have hk0 : (0 : Int) ≤ (k : Int) := by omega
          have hk3 : (k : Int) ≤ (m : Int) := by omega
          have hk4 : (m : Int) ≤ (cb : Int) := by omega
          have hsz : (0 : Int) < (signs.size : Int) := by omega
          have hst : St p a len cap w g m cb w3 := ⟨hd, HB.out, hp, HK.out⟩
          clear hd
          go_wp2
          have HM1 : Hid (Mine w.heap.size g (w3.alloc (.cells #[] 5)).drew w3.heap.size 0 0) := Mine.new hst
          have HS1 : Hid (∀ c, Src (w3.alloc (.cells #[] 5)).drew (.slice (some ⟨g, 0, none⟩) k c) k) := fun c => (St.made hst _).bts.src 0 k c (by omega)
          have HBD : Hid (0 + k ≤ 17592186044416) := by (show 0 + k ≤ 17592186044416); omega
          have HS7 : Hid (∀ w', St p a len cap w g m cb w' → ∀ c, Src w' (.slice (some ⟨g, k, none⟩) (m - k) c) (m - k)) := fun w' h c => h.bts.src k (m - k) c (by omega)
          have HBE : Hid (k + 1 ≤ 17592186044416) := by (show k + 1 ≤ 17592186044416); omega
          have HBF : Hid (k + 1 + (m - k) ≤ 17592186044416) := by (show k + 1 + (m - k) ≤ 17592186044416); omega
          go_region_held3 (fun w' => St p a len cap w g m cb w') (first | assumption | exact St.made (by assumption) _ | exact St.made' (by assumption) _ | exact St.drew (by assumption)) (first
            | ((refine step_app2 (hst.made _) (by rfl) (.tmp 59) (.tmp 62) (by rfl) w3.heap.size 0 0 k _ (by rfl) (by rfl) HM1.out (HS1.out _) HBD.out k (Nat.zero_add k) ?_; intro b2 c2 w5 hm2 hst5 hgr2))
            | ((go_at_call 22; refine (below_any _ _ hst5.drawn hsz).mono ?_; rintro e w6 ⟨x, rfl, hx, ho6, hd6⟩; have hst6 := hst5.onto ho6 hd6; have hm3 := hm2.onto ho6 hp; have hx0 : (0 : Int) ≤ (x : Int) := by omega))
            | ((refine step_app2 (hst6.made' _) (by rfl) (.tmp 63) (.tmp 70) (by rfl) b2 k c2 1 _ (by rfl) (by rfl) (hm3.made' _) (Lone.src (Lone.new' _ _)) HBE.out (k + 1) rfl ?_; intro b4 c4 w7 hm4 hst7 hgr4))
            | ((refine step_app2 hst7 (by rfl) (.tmp 71) (.tmp 74) (by rfl) b4 (k + 1) c4 (m - k) _ (by rfl) (by rfl) hm4 (HS7.out _ hst7 _) HBF.out (k + 1 + (m - k)) rfl ?_; intro b5 c5 w8 hm5 hst8 hgr5)))
          go_wp2
          go_roundw
          case rel => exact ⟨k + 1 + (m - k), r - 1, by congr 1; omega, by omega, hm5.1.bts, by omega, hst8.drawn⟩
          case measure => simp [intOf]; omega
end Go.Proofs.YtifkcojcedgepaaDoor.Bend
