/-
  Lists of byte numbers that the draws write out, in drawn regions.
-/
import Derived.Test.YtogmhpjelmlonaaMcNew
import Derived.Test.YtogmhpjelmlonaaMcRead
import Derived.Test.YtogmhpjelmlonaaDraw
import Derived.Test.YtogmhpjelmlonaaDrawMore
import Derived.Test.YtogmhpjelmlonaaOps
import Derived.Test.YtogmhpjelmlonaaReg6
import Derived.Laws.AppendOwn
namespace Go.Proofs.Ytogmhpjelmlonaa.Mem
open Go.ChangeShapes Go.WideShapes Go.RowKit Base Draw Slc Num Rw Tmr Srl Rom RomOf Reg
set_option linter.unusedVariables false
set_option linter.unusedSimpArgs false

/-- A new list of n byte numbers, apart from v. -/
def LB (base : Nat) (v : Value) (n : Nat) (x : Value) (W : World) : Prop := ∃ l : List Int, l.length = n ∧ l.all bok = true ∧ Own base W x l ∧ Apart v x
/-- The place of a byte number in such a list. -/
def PB (base : Nat) (v : Value) (x : Value) (W : World) : Prop := ∃ (b r : Nat) (z : Int), x = .pointer (some ⟨b, r, none⟩) ∧ W.cell? ⟨b, r, none⟩ = some (.int .i64 z) ∧ 0 ≤ z ∧ z ≤ 255 ∧ base ≤ b ∧ v.ownBlock ≠ some b
def BY (x : Value) : Prop := ∃ z : Int, x = .int .i64 z ∧ 0 ≤ z ∧ z ≤ 255
def IX (n : Int) (x : Value) : Prop := ∃ r : Nat, x = .int .i64 (r : Int) ∧ (r : Int) < n
theorem LB.onto {base p n : Nat} {v x : Value} {W W' : World} (h : LB base v n x W) (ho : Onto p W W') (hp : p < base) : LB base v n x W' := by
  obtain ⟨l, h1, h2, h3, h4⟩ := h
  exact ⟨l, h1, h2, h3.onto ho (fun e => by have := (h3.lt _ e).1; omega), h4⟩
theorem LB.grown {base n : Nat} {v x : Value} {W W' : World} (h : LB base v n x W) (hg : W.grownBy W' v.ownBlock) : LB base v n x W' := by
  obtain ⟨l, h1, h2, h3, h4⟩ := h
  exact ⟨l, h1, h2, h3.grown hg (fun k hk => h4 k hk), h4⟩
theorem PB.onto {base p : Nat} {v x : Value} {W W' : World} (h : PB base v x W) (ho : Onto p W W') (hp : p < base) : PB base v x W' := by
  obtain ⟨b, r, z, h1, h2, h3⟩ := h
  exact ⟨b, r, z, h1, by rw [ho.cell (q := ⟨b, r, none⟩) (by show b ≠ p; omega) (cell_lt h2)]; exact h2, h3⟩
theorem PB.grown {base : Nat} {v x : Value} {W W' : World} (h : PB base v x W) (hg : W.grownBy W' v.ownBlock) : PB base v x W' := by
  obtain ⟨b, r, z, h1, h2, h3, h4, h5, h6⟩ := h
  exact ⟨b, r, z, h1, by rw [World.cell?_of_block (w := W) (a := ⟨b, r, none⟩) (hg.block b (cell_lt h2) (fun e => h6 e.symm))]; exact h2, h3, h4, h5, h6⟩
theorem LB.at {base n : Nat} {v x : Value} {W : World} (h : LB base v n x W) {r : Nat} (hr : r < n) : ∃ b c, x = .slice (some ⟨b, 0, none⟩) n c ∧ PB base v (.pointer (some ⟨b, r, none⟩)) W := by
  obtain ⟨l, h1, h2, h3, h4⟩ := h
  obtain ⟨g, cap, rfl, hg1, hg2, hg3, hg4⟩ := h3.block (by omega)
  refine ⟨g, cap, by rw [h1], g, r, l.getD r 0, rfl, h3.cellAt (by omega), (bytes_at h2 r (by omega)).1, (bytes_at h2 r (by omega)).2, hg1, fun e => h4 g e rfl⟩
theorem lb_lit {base : Nat} {v : Value} {W : World} (cs : Array Value) (l : List Int) (hc : cs.toList = l.map (Value.int .i64)) (hb : l.all bok = true) (hl : l.length ≤ maxLen) (hbase : base ≤ W.heap.size) (hv : ∀ k, v.ownBlock = some k → k < W.heap.size) :
    LB base v l.length (.slice (some ⟨W.heap.size, 0, none⟩) l.length l.length) (W.alloc (.cells cs 2)) :=
  ⟨l, rfl, hb, own_lit base W cs l hc hl hbase, fun k hk e => by have := hv k hk; simp [Value.ownBlock] at e; omega⟩
theorem below_onto_p {p : Nat} {W W' : World} (h : Below W.heap.size W W') : Onto p W W' := ⟨h.os, h.tape, h.output, h.size, fun k _ hk => h.block k hk⟩
theorem wp_app {o : Oper} {a : Act} {w : World} {K : Act → World → Prop} {Q : Exit → Act → World → Prop} (s x : Operand)
    (ho : o.op = .call { callee := .builtin .append, args := #[s, x], argTypes := #[24, 24] })
    (base : Nat) (l news : List Int) (hown : Own base w (a.eval s) l) (hn : Sl w (a.eval x) news) (hne : 0 < news.length) (hbd : l.length + news.length ≤ 17592186044416) (hbase : base ≤ w.heap.size)
    (h : ∀ v' w', Own base w' v' (l ++ news) → w.grownBy w' (a.eval s).ownBlock → K (a.put o.dst v') w') : o.wp Try.prog a w K Q := by
  obtain ⟨i0, hi, hz0, hz1, hz2⟩ := info_parts info64
  obtain ⟨ao, cap, hx, hat, hlc, hcm, hnil⟩ := hn
  rcases hat.2 with h0 | ⟨b, off, rfl, hbs, hc⟩
  · omega
  refine wp_append_own w s x 24 ho base 2 i0 (.int .i64 0) 1 8 und64 hi hz0 hz1 hz2 rfl (by decide) (a.eval s) l.length (l.map (Value.int .i64)) rfl hown ⟨b, off, none⟩ news.length cap (news.map (Value.int .i64)) hx (by simp) ?_ (ints_oneCell _ _) (by unfold maxLen; omega) (by omega) hbase ?_
  · intro j u hj
    have hjl : j < news.length := by
      have := (List.getElem?_eq_some_iff.1 hj).1
      simpa using this
    have hcj := hc j hjl
    have e : (⟨b, off, none⟩ : Addr).add j = ⟨b, off + j, none⟩ := by
      by_cases hi0 : j = 0 <;> simp [Addr.add, hi0]
    rw [e, hcj]
    simp [List.getElem?_eq_getElem hjl] at hj
    rw [← hj, List.getD_eq_getElem?_getD, List.getElem?_eq_getElem hjl]
    rfl
  · intro v' w' h2 h3 _
    refine h v' w' ?_ h3
    unfold Own
    rw [List.length_append, List.map_append]
    exact h2
end Go.Proofs.Ytogmhpjelmlonaa.Mem
