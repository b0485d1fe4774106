/-
  Small facts that hold of every program: what a call that writes into one block of its own leaves alone; numbers behind a mask.
-/
import Derived.WalkKit
import Derived.WalkLawsBesides
import Derived.OpenShut
namespace Go.Proofs.Ytggfjghcgacdnaa.Base
open Go.RowKit
set_option linter.unusedVariables false
set_option maxRecDepth 20000

/-- Of the blocks that were there, the block p alone may have turned. -/
structure Onto (p : Nat) (w w' : World) : Prop where
  os : w'.os = w.os
  tape : w'.tape = w.tape
  output : w'.output = w.output
  size : w.heap.size ≤ w'.heap.size
  block : ∀ k, k ≠ p → k < w.heap.size → w'.heap[k]? = w.heap[k]?

theorem Onto.refl (p : Nat) (w : World) : Onto p w w := ⟨rfl, rfl, rfl, Nat.le_refl _, fun _ _ _ => rfl⟩
theorem Onto.trans {p : Nat} {a b c : World} (h : Onto p a b) (k : Onto p b c) : Onto p a c :=
  ⟨k.os.trans h.os, k.tape.trans h.tape, k.output.trans h.output, Nat.le_trans h.size k.size, fun i hi hl => (k.block i hi (Nat.lt_of_lt_of_le hl h.size)).trans (h.block i hi hl)⟩
theorem Onto.drew {p : Nat} {a w : World} (h : Onto p a w) : Onto p a w.drew := ⟨h.os, h.tape, h.output, h.size, h.block⟩
theorem Onto.drewN {p : Nat} {a w : World} (h : Onto p a w) (n : Nat) : Onto p a (w.drewN n) := ⟨h.os, h.tape, h.output, h.size, h.block⟩
theorem Onto.alloc {p : Nat} {a w : World} (h : Onto p a w) (o : Obj) : Onto p a (w.alloc o) :=
  h.trans ⟨rfl, rfl, rfl, by simp, fun k _ hk => Below.heap_alloc _ _ _ hk⟩
theorem Onto.setCell {p : Nat} {a w : World} (h : Onto p a w) {q : Addr} (hq : q.block = p) (u : Value) : Onto p a (w.setCell q u) :=
  h.trans ⟨rfl, rfl, rfl, by simp [World.setCell], fun k hk _ => Below.heap_setCell _ _ _ _ (by omega)⟩
/-- A store into a block that was not there when it began. -/
theorem Onto.setNew {p : Nat} {a w : World} (h : Onto p a w) {q : Addr} (hq : a.heap.size ≤ q.block) (u : Value) : Onto p a (w.setCell q u) :=
  ⟨h.os, h.tape, h.output, by simpa [World.setCell] using h.size, fun k hk hl => by rw [Below.heap_setCell _ _ _ _ (by omega)]; exact h.block k hk hl⟩
theorem Onto.below {p : Nat} {w w' : World} (h : Onto p w w') {B : Nat} (hB : B ≤ p) (hw : B ≤ w.heap.size) : Below B w w' :=
  ⟨h.os, h.tape, h.output, h.size, fun k hk => h.block k (by omega) (by omega)⟩
theorem Onto.cell {p : Nat} {w w' : World} (h : Onto p w w') {q : Addr} (hq : q.block ≠ p) (hl : q.block < w.heap.size) : w'.cell? q = w.cell? q :=
  World.cell?_of_block (w := w) (h.block q.block hq hl)
theorem Onto.frozen {p : Nat} {w w' : World} (h : Onto p w w') {q : Addr} (hq : q.block ≠ p) (hl : q.block < w.heap.size) : w'.frozen? q = w.frozen? q :=
  World.frozen?_of_block (w := w) (h.block q.block hq hl)

theorem cell_lt {w : World} {q : Addr} {v : Value} (h : w.cell? q = some v) : q.block < w.heap.size := by
  by_cases hl : q.block < w.heap.size
  · exact hl
  · have e : w.heap[q.block]? = none := by simp; omega
    simp [World.cell?, e] at h

theorem bcell {W w1 : World} (hb : Below W.heap.size W w1) : (∀ b o, b < W.heap.size → w1.cell? ⟨b, o, none⟩ = W.cell? ⟨b, o, none⟩) ∧ (∀ b o, b < W.heap.size → w1.frozen? ⟨b, o, none⟩ = W.frozen? ⟨b, o, none⟩) :=
  ⟨fun b o h => hb.cell (p := ⟨b, o, none⟩) h, fun b o h => hb.frozen (p := ⟨b, o, none⟩) h⟩

/-- What a mask leaves is between nought and the mask. -/
theorem and_mask (x m : Int) (h0 : 0 ≤ m) (h1 : m < 9223372036854775808) : 0 ≤ bits .and .i64 x m ∧ bits .and .i64 x m ≤ m := by
  have hm : (BitVec.ofInt 64 m).toNat = m.toNat := by
    rw [BitVec.toNat_ofInt]
    omega
  have hle : (BitVec.ofInt 64 x &&& BitVec.ofInt 64 m).toNat ≤ m.toNat := by
    rw [BitVec.toNat_and, hm]; exact Nat.and_le_right
  show 0 ≤ IntKind.i64.wrap ((BitVec.ofInt 64 x &&& BitVec.ofInt 64 m).toNat : Int) ∧ IntKind.i64.wrap ((BitVec.ofInt 64 x &&& BitVec.ofInt 64 m).toNat : Int) ≤ m
  generalize (BitVec.ofInt 64 x &&& BitVec.ofInt 64 m).toNat = r at hle
  have e : IntKind.i64.wrap (r : Int) = (r : Int) := by
    simp [IntKind.wrap, IntKind.bits, IntKind.signed]
    omega
  rw [e]
  omega
theorem and_mask_u (x m : Int) (h0 : 0 ≤ m) (h1 : m < 9223372036854775808) : 0 ≤ bits .and .u64 x m ∧ bits .and .u64 x m ≤ m := by
  have hm : (BitVec.ofInt 64 m).toNat = m.toNat := by
    rw [BitVec.toNat_ofInt]
    omega
  have hle : (BitVec.ofInt 64 x &&& BitVec.ofInt 64 m).toNat ≤ m.toNat := by
    rw [BitVec.toNat_and, hm]; exact Nat.and_le_right
  show 0 ≤ IntKind.u64.wrap ((BitVec.ofInt 64 x &&& BitVec.ofInt 64 m).toNat : Int) ∧ IntKind.u64.wrap ((BitVec.ofInt 64 x &&& BitVec.ofInt 64 m).toNat : Int) ≤ m
  generalize (BitVec.ofInt 64 x &&& BitVec.ofInt 64 m).toNat = r at hle
  have e : IntKind.u64.wrap (r : Int) = (r : Int) := by
    simp [IntKind.wrap, IntKind.bits, IntKind.signed]
    omega
  rw [e]
  omega
theorem ret_int {k : IntKind} {a b : Int} (h : a = b) : Ending.returned (.int k a) = .returned (.int k b) := by rw [h]

theorem ret_bool {a b : Bool} (h : a = b) : Ending.returned (.bool a) = .returned (.bool b) := by rw [h]

/-- A slice of bytes that came in: its elements read as bytes. -/
def CodeAt (w : World) (a : Option Addr) (len : Nat) : Prop :=
  len = 0 ∨ ∃ b off, a = some ⟨b, off, none⟩ ∧ b < w.heap.size ∧ ∀ i, i < len → ∃ z : Int, w.cell? ⟨b, off + i, none⟩ = some (.int .u8 z) ∧ 0 ≤ z ∧ z ≤ 255
theorem CodeAt.onto {p : Nat} {w w' : World} {a : Option Addr} {len : Nat} (h : CodeAt w a len) (ho : Onto p w w') (hp : 0 < len → ∀ x, a = some x → x.block ≠ p) : CodeAt w' a len := by
  rcases h with h | ⟨b, off, rfl, hb, hc⟩
  · exact .inl h
  · refine .inr ⟨b, off, rfl, Nat.lt_of_lt_of_le hb ho.size, fun i hi => ?_⟩
    obtain ⟨z, hz, h0⟩ := hc i hi
    exact ⟨z, by rw [ho.cell (q := ⟨b, off + i, none⟩) (hp (by omega) ⟨b, off, none⟩ rfl) hb]; exact hz, h0⟩
theorem CodeAt.below {w w' : World} {a : Option Addr} {len : Nat} (h : CodeAt w a len) (ho : Below w.heap.size w w') : CodeAt w' a len := by
  rcases h with h | ⟨b, off, rfl, hb, hc⟩
  · exact .inl h
  · refine .inr ⟨b, off, rfl, Nat.lt_of_lt_of_le hb ho.size, fun i hi => ?_⟩
    obtain ⟨z, hz, h0⟩ := hc i hi
    exact ⟨z, by rw [ho.cell (p := ⟨b, off + i, none⟩) hb]; exact hz, h0⟩
theorem CodeAt.keep {w w' : World} {a : Option Addr} {len : Nat} (h : CodeAt w a len) (hs : w.heap.size ≤ w'.heap.size) (hk : 0 < len → ∀ x, a = some x → w'.heap[x.block]? = w.heap[x.block]?) : CodeAt w' a len := by
  rcases h with h | ⟨b, off, rfl, hb, hc⟩
  · exact .inl h
  · by_cases h0 : 0 < len
    · refine .inr ⟨b, off, rfl, Nat.lt_of_lt_of_le hb hs, fun i hi => ?_⟩
      obtain ⟨z, hz, hb⟩ := hc i hi
      exact ⟨z, by rw [World.cell?_of_block (w := w) (a := ⟨b, off + i, none⟩) (hk h0 ⟨b, off, none⟩ rfl)]; exact hz, hb⟩
    · exact .inl (by omega)
theorem CodeAt.lt {w : World} {a : Option Addr} {len : Nat} (h : CodeAt w a len) : 0 < len → ∀ x, a = some x → x.block < w.heap.size := by
  intro h0 x hx
  rcases h with h | ⟨b, off, rfl, hb, hc⟩
  · omega
  · cases hx; exact hb
/-- A slice of bytes as the row's frame opens it. -/
theorem code_of {w : World} {a : Option Addr} {len cap : Nat} {zs : List Int} (h : (a = none ∧ len = 0 ∧ cap = 0 ∧ zs = []) ∨
    ∃ x, a = some x ∧ len ≤ cap ∧ cap ≤ maxLen ∧ zs.length = cap ∧ (∀ i, i < zs.length → w.cell? (x.add i) = some (.int .u8 (zs.getD i 0))) ∧ ∀ n ∈ zs, (Lit.int .u8 n).wf = true) : CodeAt w a len := by
  by_cases h0 : len = 0
  · exact .inl h0
  · rcases h with ⟨_, h1, _⟩ | ⟨⟨b, off, spot⟩, rfl, hl, hm, hz, hcell, hwz⟩
    · exact absurd h1 h0
    · have hc := hcell 0 (by omega)
      have hspot : spot = none := by simpa [Addr.add] using World.cell?_spot hc
      subst hspot
      refine .inr ⟨b, off, rfl, cell_lt hc, fun i hi => ?_⟩
      have hci := hcell i (by omega)
      have hg : zs.getD i 0 ∈ zs := by
        rw [List.getD_eq_getElem?_getD, List.getElem?_eq_getElem (by omega : i < zs.length)]
        simp
      have hb := bounds_u8 (hwz _ hg)
      refine ⟨zs.getD i 0, ?_, hb.1, hb.2⟩
      have e : (⟨b, off, none⟩ : Addr).add i = ⟨b, off + i, none⟩ := by
        by_cases hi0 : i = 0 <;> simp [Addr.add, hi0]
      rw [← e]; exact hci
end Go.Proofs.Ytggfjghcgacdnaa.Base
