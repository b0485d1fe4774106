/-
  Messages and inboxes, as the document tells them: which are right, where one comes in; an inbox with a message more is right.
-/
import Derived.Test.YtggfjghcgacdnaaTmr
namespace Go.Proofs.Ytggfjghcgacdnaa.Mem
open Go.ChangeShapes Go.WideShapes Go.RowKit Base Num Slc Rw Tmr
set_option linter.unusedVariables false
set_option maxRecDepth 20000
set_option linter.unusedSimpArgs false

/-- A message, or an event: when, its kind, its value. -/
structure M3 where
  t : Int
  k : Int
  v : Int
def M3.nul : M3 := ⟨0, 0, 0⟩
def M3.cs (m : M3) : List Value := [.int .i64 m.t, .int .i64 m.k, .int .i64 m.v]
def M3.val (m : M3) : Value := .agg #[.int .i64 m.t, .int .i64 m.k, .int .i64 m.v]
def M3.ok (m : M3) : Bool := inn m.t 0 1000000100 && (if m.k = 1 ∨ m.k = 2 then inn m.v 0 1 else if m.k = 3 then bok m.v else false)
/-- a is later than b. -/
def later (a b : M3) : Bool := decide (b.t < a.t) || (a.t == b.t && decide (b.k < a.k))
def M3.at' (l : List M3) (i : Nat) : M3 := l.getD i M3.nul
/-- The message at a place is right, and not before the one ahead of it. -/
def fits (l : List M3) (i : Nat) : Bool := (M3.at' l i).ok && !(decide (0 < i) && later (M3.at' l (i - 1)) (M3.at' l i))
def fitsTo (l : List M3) (n : Nat) : Bool := (List.range n).all (fits l)
def inboxOk (l : List M3) : Bool := fitsTo l l.length && decide (l.length ≤ 200)
/-- Where a message comes in: behind all that are not later. -/
def insAt (l : List M3) (m : M3) : Nat → Nat
  | 0 => 0
  | k + 1 => if later (M3.at' l k) m then insAt l m k else k + 1
def withM (l : List M3) (m : M3) : List M3 := l.take (insAt l m l.length) ++ [m] ++ l.drop (insAt l m l.length)
def inboxWith (l : List M3) (m : M3) : List M3 × Bool :=
  if inboxOk l then (if decide (200 ≤ l.length) || !m.ok then (l, false) else (withM l m, true)) else ([], false)
/-- An inbox with a message more is right. -/
theorem later_total (a b : M3) : later a b = true → later b a = false := by
  unfold later
  simp only [Bool.or_eq_true, Bool.and_eq_true, beq_iff_eq, decide_eq_true_eq, Bool.or_eq_false_iff, Bool.and_eq_false_iff, beq_eq_false_iff_ne, ne_eq, decide_eq_false_iff_not]
  omega
theorem insAt_le (l : List M3) (m : M3) : ∀ k, insAt l m k ≤ k
  | 0 => Nat.le_refl _
  | k + 1 => by
    unfold insAt
    split
    · exact Nat.le_trans (insAt_le l m k) (Nat.le_succ _)
    · exact Nat.le_refl _
/-- All from the place on are later; the one ahead of it isn't. -/
theorem insAt_later (l : List M3) (m : M3) : ∀ k j, insAt l m k ≤ j → j < k → later (M3.at' l j) m = true
  | 0, j, _, hj => by omega
  | k + 1, j, h, hj => by
    unfold insAt at h
    split at h
    · rename_i hl
      by_cases e : j = k
      · rw [e]; exact hl
      · exact insAt_later l m k j h (by omega)
    · omega
theorem insAt_not (l : List M3) (m : M3) : ∀ k, 0 < insAt l m k → later (M3.at' l (insAt l m k - 1)) m = false
  | 0, h => by simp [insAt] at h
  | k + 1, h => by
    unfold insAt at h ⊢
    split at h
    · rename_i hl
      rw [if_pos hl]
      exact insAt_not l m k h
    · rename_i hl
      rw [if_neg hl]
      simpa using hl
theorem with_len (l : List M3) (m : M3) : (withM l m).length = l.length + 1 := by
  have := insAt_le l m l.length
  simp [withM]
  omega
theorem with_get (l : List M3) (m : M3) (i : Nat) : M3.at' (withM l m) i = if i < insAt l m l.length then M3.at' l i else if i = insAt l m l.length then m else M3.at' l (i - 1) := by
  have hk := insAt_le l m l.length
  obtain ⟨k, hke⟩ : ∃ k, insAt l m l.length = k := ⟨_, rfl⟩
  unfold withM M3.at'
  rw [hke] at hk ⊢
  simp only [List.getD_eq_getElem?_getD]
  by_cases h1 : i < k
  · rw [if_pos h1, List.append_assoc, List.getElem?_append_left (by simp; omega), List.getElem?_take, if_pos h1]
  rw [if_neg h1]
  by_cases h2 : i = k
  · rw [if_pos h2, List.append_assoc, List.getElem?_append_right (by simp; omega)]
    have : i - (l.take k).length = 0 := by simp; omega
    rw [this]
    rfl
  · rw [if_neg h2, List.getElem?_append_right (by simp; omega), List.getElem?_drop]
    congr 2
    simp
    omega
theorem fits_all {l : List M3} : inboxOk l = true ↔ (∀ i, i < l.length → (M3.at' l i).ok = true) ∧ (∀ i, i + 1 < l.length → later (M3.at' l i) (M3.at' l (i + 1)) = false) ∧ l.length ≤ 200 := by
  simp only [inboxOk, Bool.and_eq_true, fitsTo, List.all_eq_true, List.mem_range, fits, decide_eq_true_eq]
  constructor
  · rintro ⟨h, hn⟩
    refine ⟨fun i hi => (h i hi).1, fun i hi => ?_, hn⟩
    have := (h (i + 1) hi).2
    simpa using this
  · rintro ⟨h1, h2, hn⟩
    refine ⟨fun i hi => ⟨h1 i hi, ?_⟩, hn⟩
    rcases i with _ | i
    · simp
    · have := h2 i hi
      simp [this]
theorem with_ok {l : List M3} {m : M3} (h : inboxOk l = true) (hn : l.length < 200) (hm : m.ok = true) : inboxOk (withM l m) = true := by
  obtain ⟨h1, h2, _⟩ := fits_all.1 h
  have hk := insAt_le l m l.length
  have hlat := insAt_later l m l.length
  have hnot := insAt_not l m l.length
  have hg := with_get l m
  have hlen := with_len l m
  generalize insAt l m l.length = k at hk hlat hnot hg
  refine fits_all.2 ⟨fun i hi => ?_, fun i hi => ?_, by omega⟩
  · rw [hg]
    split
    · exact h1 i (by omega)
    split
    · exact hm
    · exact h1 _ (by omega)
  · rw [hg i, hg (i + 1)]
    by_cases c1 : i + 1 < k
    · rw [if_pos (by omega), if_pos c1]; exact h2 i (by omega)
    by_cases c2 : i + 1 = k
    · rw [if_pos (by omega), if_neg c1, if_pos c2]
      have := hnot (by omega)
      rwa [show k - 1 = i by omega] at this
    by_cases c3 : i = k
    · rw [if_neg (by omega), if_pos c3, if_neg c1, if_neg (by omega), show i + 1 - 1 = i by omega]
      exact later_total _ _ (hlat i (by omega) (by omega))
    · rw [if_neg (by omega), if_neg c3, if_neg c1, if_neg (by omega), show i + 1 - 1 = (i - 1) + 1 by omega]
      exact h2 (i - 1) (by omega)
end Go.Proofs.Ytggfjghcgacdnaa.Mem
