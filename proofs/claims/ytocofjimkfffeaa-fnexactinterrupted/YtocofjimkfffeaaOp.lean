/-
  The table of operations as a list; what the program's and the document's model's functions of chapter 3 answer.
-/
import Derived.Test.YtocofjimkfffeaaSlc
import Derived.Deep.QuietTactic
import Derived.BigQuiet
namespace Go.Proofs.Ytocofjimkfffeaa.Opl
open Go.ChangeShapes Go.WideShapes Go.RowKit Base
set_option linter.unusedVariables false

/-- The lines of the table: name, size, cost. -/
def ops : List (List UInt8 × Int × Int) := [([110, 111, 112], 1, 1), ([108, 100, 97], 2, 2), ([108, 100, 98], 2, 2), ([109, 97, 98], 1, 1), ([109, 98, 97], 1, 1), ([103, 101, 116], 2, 3), ([112, 117, 116], 2, 3), ([103, 105, 98], 1, 2), ([112, 105, 98], 1, 2), ([97, 100, 100], 2, 2), ([97, 100, 98], 1, 1), ([115, 117, 98], 2, 2), ([99, 109, 112], 2, 2), ([97, 110, 100], 2, 2), ([120, 111, 114], 2, 2), ([114, 111, 108], 1, 1), ([114, 111, 114], 1, 1), ([105, 110, 98], 1, 1), ([100, 101, 98], 1, 1), ([106, 109, 112], 2, 3), ([106, 112, 122], 2, 3), ([106, 110, 122], 2, 3), ([106, 112, 99], 2, 3), ([99, 97, 108], 2, 4), ([114, 101, 116], 1, 4), ([112, 115, 104], 1, 3), ([112, 111, 112], 1, 3), ([101, 110, 105], 1, 1), ([100, 105, 115], 1, 1), ([114, 116, 105], 1, 4), ([104, 108, 116], 1, 1)]
/-- A line as three cells. -/
def cells3 (x : List UInt8 × Int × Int) : List Value := [.string ⟨x.1.toArray⟩, .int .i64 x.2.1, .int .i64 x.2.2]
def rows (l : List (List UInt8 × Int × Int)) : List Value := l.flatMap cells3
/-- The line of a code; the zero line where there is none. -/
def line (k : Int) : List UInt8 × Int × Int := if 0 ≤ k ∧ k < 31 then ops.getD k.toNat ([], 0, 0) else ([], 0, 0)
def agg3 (x : List UInt8 × Int × Int) : Value := .agg (cells3 x).toArray

/-- The program's own table stands in its variable's block. -/
def OpsAt (w : World) : Prop := ∃ t fz, w.heap[0]? = some (.cells (rows ops).toArray t fz)

theorem rows_at : ∀ (l : List (List UInt8 × Int × Int)) (i j : Nat), i < l.length → j < 3 → (rows l)[i * 3 + j]? = (cells3 (l.getD i ([], 0, 0)))[j]?
  | [], i, j, hi, _ => by simp at hi
  | x :: l, 0, j, _, hj => by
    rcases j with _ | _ | _ | j
    · rfl
    · rfl
    · rfl
    · omega
  | x :: l, i + 1, j, hi, hj => by
    have ih := rows_at l i j (by simpa using hi) hj
    have e : (i + 1) * 3 + j = (cells3 x).length + (i * 3 + j) := by simp [cells3]; omega
    rw [e, rows, List.flatMap_cons, List.getElem?_append_right (by omega)]
    simpa [rows] using ih
theorem line_eq (k : Nat) (hk : k < 31) : line (k : Int) = ops.getD k ([], 0, 0) := by
  unfold line
  rw [if_pos (by omega)]
  simp
/-- The cells of a line, wherever the table lies. -/
theorem tab_at {w : World} {b : Nat} {t : TypeId} {fz : Nat × Nat} (h : w.heap[b]? = some (.cells (rows ops).toArray t fz)) (k : Nat) (hk : k < 31) :
    w.cell? ⟨b, k * 3, none⟩ = some (.string ⟨(line k).1.toArray⟩) ∧ w.cell? ⟨b, k * 3 + 1, none⟩ = some (.int .i64 (line k).2.1) ∧ w.cell? ⟨b, k * 3 + 2, none⟩ = some (.int .i64 (line k).2.2) := by
  have c : ∀ j, j < 3 → w.cell? ⟨b, k * 3 + j, none⟩ = (cells3 (line k))[j]? := fun j hj => by
    rw [cell_of_row w b (k * 3 + j) _ t fz h, line_eq k hk, ← rows_at ops k j hk hj]
    simp
  exact ⟨c 0 (by omega), c 1 (by omega), c 2 (by omega)⟩

theorem line_no (k : Int) (hk : ¬ (0 ≤ k ∧ k < 31)) : agg3 (line k) = .agg #[.string ⟨#[]⟩, .int .i64 0, .int .i64 0] := by
  unfold line
  rw [if_neg hk]
  rfl
theorem OpsAt.below {w w' : World} (h : OpsAt w) (hb : Below w.heap.size w w') : OpsAt w' := by
  obtain ⟨t, fz, h⟩ := h
  exact ⟨t, fz, by rw [hb.block 0 (by
    by_cases h0 : 0 < w.heap.size
    · exact h0
    · simp at h0; simp [h0] at h)]; exact h⟩
theorem OpsAt.lt {w : World} (h : OpsAt w) : 0 < w.heap.size := by
  obtain ⟨t, fz, h⟩ := h
  by_cases h0 : 0 < w.heap.size
  · exact h0
  · simp at h0; simp [h0] at h
end Go.Proofs.Ytocofjimkfffeaa.Opl
