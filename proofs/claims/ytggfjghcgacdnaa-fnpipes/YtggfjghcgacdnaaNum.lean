/-
  What chapter 1's functions answer, of the program and of its model: byte numbers, their sums, differences and turns, for every int64.
-/
import Derived.Test.YtggfjghcgacdnaaRows
import Derived.WalkKit
import Derived.WalkLawsBesides
namespace Go.Proofs.Ytggfjghcgacdnaa.Num
open Go.ChangeShapes Go.WideShapes Go.RowKit
set_option linter.unusedVariables false
set_option maxRecDepth 20000

def bok (n : Int) : Bool := decide (0 ≤ n) && decide (n ≤ 255)
theorem bok_true {n : Int} (h : bok n = true) : 0 ≤ n ∧ n ≤ 255 := by simpa [bok] using h
theorem bok_false {n : Int} (h : bok n = false) : n < 0 ∨ 255 < n := by
  simp only [bok, Bool.and_eq_false_iff, decide_eq_false_iff_not] at h; omega
theorem bok_mk {n : Int} (h0 : 0 ≤ n) (h1 : n ≤ 255) : bok n = true := by simp [bok, h0, h1]

theorem byteOk_impl (n : Int) (w : World) :
    Calls Try.prog 53 #[.int .i64 n] w fun e w' => e = .returned (.bool (bok n)) ∧ w' = w := by
  by_cases h0 : 0 ≤ n
  · by_cases h1 : n ≤ 255
    · have hb : bok n = true := bok_mk h0 h1
      rw [hb]
      go_enter Try.func53, Try.ntmps53
      go_wp2
      go_ret
      exact ⟨rfl, rfl⟩
    · have hb : bok n = false := by simp [bok, h0, h1]
      rw [hb]
      go_enter Try.func53, Try.ntmps53
      go_wp2
      go_ret
      exact ⟨rfl, rfl⟩
  · have hb : bok n = false := by simp [bok, h0]
    rw [hb]
    go_enter Try.func53, Try.ntmps53
    go_wp2
    go_ret
    exact ⟨rfl, rfl⟩

theorem byteOk_spec (n : Int) (w : World) :
    Calls Try.prog 54 #[.int .i64 n] w fun e w' => e = .returned (.bool (bok n)) ∧ w' = w := by
  by_cases h0 : 0 ≤ n
  · by_cases h1 : n ≤ 255
    · have hb : bok n = true := bok_mk h0 h1
      rw [hb]
      go_enter Try.func54, Try.ntmps54
      go_wp2
      go_ret
      exact ⟨rfl, rfl⟩
    · have hb : bok n = false := by simp [bok, h0, h1]
      rw [hb]
      go_enter Try.func54, Try.ntmps54
      go_wp2
      go_ret
      exact ⟨rfl, rfl⟩
  · have hb : bok n = false := by simp [bok, h0]
    rw [hb]
    go_enter Try.func54, Try.ntmps54
    go_wp2
    go_ret
    exact ⟨rfl, rfl⟩

def addB (a b : Int) : Int := if bok a && bok b then (a + b) % 256 else 0
def addC (a b : Int) : Bool := bok a && bok b && decide (255 < a + b)

def subB (a b : Int) : Int := if bok a && bok b then (a - b) % 256 else 0
def subC (a b : Int) : Bool := bok a && bok b && decide (a < b)

def turnLB (a : Int) : Int := if bok a then 2 * a % 256 + a / 128 else 0
def turnLC (a : Int) : Bool := bok a && decide (127 < a)
def turnRB (a : Int) : Int := if bok a then a / 2 + 128 * (a % 2) else 0
def turnRC (a : Int) : Bool := bok a && (a % 2 == 1)

theorem or_left {a : Int} (hA : 0 ≤ a ∧ a ≤ 255) : bits BinOp.or IntKind.u8 (a * 2 % 256) (a / 128) = 2 * a % 256 + a / 128 := by
  have key : ∀ n : Fin 256, bits BinOp.or IntKind.u8 ((n.val : Int) * 2 % 256) ((n.val : Int) / 128) = 2 * (n.val : Int) % 256 + (n.val : Int) / 128 := by decide +kernel
  have h := key ⟨a.toNat, by omega⟩
  have e : ((a.toNat : Nat) : Int) = a := by omega
  simpa only [e] using h
theorem or_right {a : Int} (hA : 0 ≤ a ∧ a ≤ 255) : bits BinOp.or IntKind.u8 (a / 2) (a * 128 % 256) = a / 2 + 128 * (a % 2) := by
  have key : ∀ n : Fin 256, bits BinOp.or IntKind.u8 ((n.val : Int) / 2) ((n.val : Int) * 128 % 256) = (n.val : Int) / 2 + 128 * ((n.val : Int) % 2) := by decide +kernel
  have h := key ⟨a.toNat, by omega⟩
  have e : ((a.toNat : Nat) : Int) = a := by omega
  simpa only [e] using h
end Go.Proofs.Ytggfjghcgacdnaa.Num
