/-
  What chapter 1's functions answer, of the program and of its model: byte numbers, their sums, differences and turns, for every int64.
-/
import Derived.Test.YtjjafaikaghlgaaRows
import Derived.WalkKit
import Derived.WalkLawsBesides
namespace Go.Proofs.Ytjjafaikaghlgaa.Num
open Go.ChangeShapes Go.WideShapes Go.RowKit
set_option linter.unusedVariables false
set_option maxRecDepth 20000

def bok (n : Int) : Bool := decide (0 ≤ n) && decide (n ≤ 255)
theorem bok_true {n : Int} (h : bok n = true) : 0 ≤ n ∧ n ≤ 255 := by simpa [bok] using h
theorem bok_false {n : Int} (h : bok n = false) : n < 0 ∨ 255 < n := by
  simp only [bok, Bool.and_eq_false_iff, decide_eq_false_iff_not] at h; omega
theorem bok_mk {n : Int} (h0 : 0 ≤ n) (h1 : n ≤ 255) : bok n = true := by simp [bok, h0, h1]

theorem byteOk_impl (n : Int) (w : World) :
    Calls Try.prog 60 #[.int .i64 n] w fun e w' => e = .returned (.bool (bok n)) ∧ w' = w := by
  by_cases h0 : 0 ≤ n
  · by_cases h1 : n ≤ 255
    · have hb : bok n = true := bok_mk h0 h1
      rw [hb]
      go_enter Try.func60, Try.ntmps60
      go_wp2
      go_ret
      exact ⟨rfl, rfl⟩
    · have hb : bok n = false := by simp [bok, h0, h1]
      rw [hb]
      go_enter Try.func60, Try.ntmps60
      go_wp2
      go_ret
      exact ⟨rfl, rfl⟩
  · have hb : bok n = false := by simp [bok, h0]
    rw [hb]
    go_enter Try.func60, Try.ntmps60
    go_wp2
    go_ret
    exact ⟨rfl, rfl⟩

theorem byteOk_spec (n : Int) (w : World) :
    Calls Try.prog 83 #[.int .i64 n] w fun e w' => e = .returned (.bool (bok n)) ∧ w' = w := by
  by_cases h0 : 0 ≤ n
  · by_cases h1 : n ≤ 255
    · have hb : bok n = true := bok_mk h0 h1
      rw [hb]
      go_enter Try.func83, Try.ntmps83
      go_wp2
      go_ret
      exact ⟨rfl, rfl⟩
    · have hb : bok n = false := by simp [bok, h0, h1]
      rw [hb]
      go_enter Try.func83, Try.ntmps83
      go_wp2
      go_ret
      exact ⟨rfl, rfl⟩
  · have hb : bok n = false := by simp [bok, h0]
    rw [hb]
    go_enter Try.func83, Try.ntmps83
    go_wp2
    go_ret
    exact ⟨rfl, rfl⟩

def addB (a b : Int) : Int := if bok a && bok b then (a + b) % 256 else 0
def addC (a b : Int) : Bool := bok a && bok b && decide (255 < a + b)

theorem plus_any (a b : Int) (w : World) (hA : 0 ≤ a ∧ a ≤ 255) (hB : 0 ≤ b ∧ b ≤ 255) :
    Calls Try.prog 113 #[.int .u8 a, .int .u8 b] w fun e w' => e = .returned (.tuple #[.int .u8 ((a + b) % 256), .bool (decide (255 < a + b))]) ∧ w' = w := by
  rw [show decide (255 < a + b) = decide ((a + b) % 256 < a) from decide_eq_decide.mpr (by omega)]
  go_enter Try.func113, Try.ntmps113
  go_wp2
  go_ret2
  exact ⟨rfl, rfl⟩
theorem joined_plus (a b : Int) (w : World) (hA : 0 ≤ a ∧ a ≤ 255) (hB : 0 ≤ b ∧ b ≤ 255) :
    Calls Try.prog 112 #[.func (Fn.func 113) #[.int .u8 a] #[], .int .u8 b] w fun e w' => e = .returned (.tuple #[.int .i64 ((a + b) % 256), .bool (decide (255 < a + b))]) ∧ w' = w := by
  go_enter Try.func112, Try.ntmps112
  go_wp2_with (go_at_call 113; refine (plus_any _ _ _ (by omega) (by omega)).mono ?_; rintro e w' ⟨rfl, rfl⟩)
  go_ret2
  exact ⟨rfl, rfl⟩
theorem addByte_impl (a b : Int) (w : World) :
    Calls Try.prog 111 #[.int .i64 a, .int .i64 b] w fun e w' => e = .returned (.tuple #[.int .i64 (addB a b), .bool (addC a b)]) ∧ w' = w := by
  by_cases ha : bok a = true
  · by_cases hb : bok b = true
    · have hA := bok_true ha
      have hB := bok_true hb
      have e1 : addB a b = (a + b) % 256 := by simp [addB, ha, hb]
      have e2 : addC a b = decide (255 < a + b) := by simp [addC, ha, hb]
      rw [e1, e2]
      go_enter Try.func111, Try.ntmps111
      go_wp2_with (first | (go_at_call 60; refine (byteOk_impl _ _).mono ?_; rintro e w' ⟨rfl, rfl⟩) | (go_at_call 112; refine (joined_plus _ _ _ hA hB).mono ?_; rintro e w' ⟨rfl, rfl⟩))
      go_ret2
      exact ⟨rfl, rfl⟩
    · have hb' : bok b = false := by simpa using hb
      have e1 : addB a b = 0 := by simp [addB, hb']
      have e2 : addC a b = false := by simp [addC, hb']
      rw [e1, e2]
      go_enter Try.func111, Try.ntmps111
      go_wp2_with (go_at_call 60; refine (byteOk_impl _ _).mono ?_; rintro e w' ⟨rfl, rfl⟩)
      go_ret2
      exact ⟨rfl, rfl⟩
  · have ha' : bok a = false := by simpa using ha
    have e1 : addB a b = 0 := by simp [addB, ha']
    have e2 : addC a b = false := by simp [addC, ha']
    rw [e1, e2]
    go_enter Try.func111, Try.ntmps111
    go_wp2_with (go_at_call 60; refine (byteOk_impl _ _).mono ?_; rintro e w' ⟨rfl, rfl⟩)
    go_ret2
    exact ⟨rfl, rfl⟩
def subB (a b : Int) : Int := if bok a && bok b then (a - b) % 256 else 0
def subC (a b : Int) : Bool := bok a && bok b && decide (a < b)

def turnLB (a : Int) : Int := if bok a then 2 * a % 256 + a / 128 else 0
def turnLC (a : Int) : Bool := bok a && decide (127 < a)
def turnRB (a : Int) : Int := if bok a then a / 2 + 128 * (a % 2) else 0
def turnRC (a : Int) : Bool := bok a && (a % 2 == 1)

theorem or_left {a : Int} (hA : 0 ≤ a ∧ a ≤ 255) : bits BinOp.or IntKind.u8 (a * 2 % 256) (a / 128) = 2 * a % 256 + a / 128 := by
  have key : ∀ n : Fin 256, bits BinOp.or IntKind.u8 ((n.val : Int) * 2 % 256) ((n.val : Int) / 128) = 2 * (n.val : Int) % 256 + (n.val : Int) / 128 := by decide +kernel
  have h := key ⟨a.toNat, by omega⟩
  have e : ((a.toNat : Nat) : Int) = a := by omega
  simpa only [e] using h
theorem or_right {a : Int} (hA : 0 ≤ a ∧ a ≤ 255) : bits BinOp.or IntKind.u8 (a / 2) (a * 128 % 256) = a / 2 + 128 * (a % 2) := by
  have key : ∀ n : Fin 256, bits BinOp.or IntKind.u8 ((n.val : Int) / 2) ((n.val : Int) * 128 % 256) = (n.val : Int) / 2 + 128 * ((n.val : Int) % 2) := by decide +kernel
  have h := key ⟨a.toNat, by omega⟩
  have e : ((a.toNat : Nat) : Int) = a := by omega
  simpa only [e] using h
end Go.Proofs.Ytjjafaikaghlgaa.Num
