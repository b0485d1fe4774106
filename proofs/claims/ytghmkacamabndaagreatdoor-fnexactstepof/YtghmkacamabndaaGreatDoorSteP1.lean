/-
  What FnExactStepOf leans on: part 1.
-/
import Derived.Test.YtghmkacamabndaaGreatDoorRows
import Derived.WalkKit
import Derived.WalkLawsBesides
import Derived.OpenShut
import Derived.OwnWalk
import Derived.Laws.OwnMore
import Derived.Laws.AppendOwnNone
import Derived.Laws.ResultCell
import Derived.Laws.Tables
import Derived.Laws.Rows
import Derived.Deep.MidRow
import Derived.Deep.QuietTactic
import Derived.BigQuiet
import Derived.BigFrame
import Derived.BigCall
import Derived.Great.BuildSlice
import Derived.MapKept
set_option linter.unusedVariables false
set_option linter.unusedSimpArgs false
set_option maxRecDepth 20000
namespace Go.Proofs.YtghmkacamabndaaGreatDoor.Num
open Go.ChangeShapes Go.WideShapes Go.RowKit

def bok (n : Int) : Bool := decide (0 ≤ n) && decide (n ≤ 255)
theorem bok_true {n : Int} (h : bok n = true) : 0 ≤ n ∧ n ≤ 255 := by simpa [bok] using h
theorem bok_mk {n : Int} (h0 : 0 ≤ n) (h1 : n ≤ 255) : bok n = true := by simp [bok, h0, h1]

theorem byteOk_impl (n : Int) (w : World) :
    Calls Tryz.prog 75 #[.int .i64 n] w fun e w' => e = .returned (.bool (bok n)) ∧ w' = w := by
  by_cases h0 : 0 ≤ n
  · by_cases h1 : n ≤ 255
    · have hb : bok n = true := bok_mk h0 h1
      rw [hb]
      go_enter Tryz.func75, Tryz.ntmps75
      go_wp2
      go_ret
      exact ⟨rfl, rfl⟩
    · have hb : bok n = false := by simp [bok, h0, h1]
      rw [hb]
      go_enter Tryz.func75, Tryz.ntmps75
      go_wp2
      go_ret
      exact ⟨rfl, rfl⟩
  · have hb : bok n = false := by simp [bok, h0]
    rw [hb]
    go_enter Tryz.func75, Tryz.ntmps75
    go_wp2
    go_ret
    exact ⟨rfl, rfl⟩

theorem byteOk_spec (n : Int) (w : World) :
    Calls Tryz.prog 122 #[.int .i64 n] w fun e w' => e = .returned (.bool (bok n)) ∧ w' = w := by
  by_cases h0 : 0 ≤ n
  · by_cases h1 : n ≤ 255
    · have hb : bok n = true := bok_mk h0 h1
      rw [hb]
      go_enter Tryz.func122, Tryz.ntmps122
      go_wp2
      go_ret
      exact ⟨rfl, rfl⟩
    · have hb : bok n = false := by simp [bok, h0, h1]
      rw [hb]
      go_enter Tryz.func122, Tryz.ntmps122
      go_wp2
      go_ret
      exact ⟨rfl, rfl⟩
  · have hb : bok n = false := by simp [bok, h0]
    rw [hb]
    go_enter Tryz.func122, Tryz.ntmps122
    go_wp2
    go_ret
    exact ⟨rfl, rfl⟩

def addB (a b : Int) : Int := if bok a && bok b then (a + b) % 256 else 0
def addC (a b : Int) : Bool := bok a && bok b && decide (255 < a + b)

theorem addByte_spec (a b : Int) (w : World) :
    Calls Tryz.prog 254 #[.int .i64 a, .int .i64 b] w fun e w' => e = .returned (.tuple #[.int .i64 (addB a b), .bool (addC a b)]) ∧ w' = w := by
  by_cases ha : bok a = true
  · by_cases hb : bok b = true
    · have hA := bok_true ha
      have hB := bok_true hb
      have e1 : addB a b = (a + b) % 256 := by simp [addB, ha, hb]
      have e2 : addC a b = decide (255 < a + b) := by simp [addC, ha, hb]
      rw [e1, e2]
      go_enter Tryz.func254, Tryz.ntmps254
      go_wp2_with (go_at_call 122; refine (byteOk_spec _ _).mono ?_; rintro e w' ⟨rfl, rfl⟩)
      go_ret2
      exact ⟨rfl, rfl⟩
    · have hb' : bok b = false := by simpa using hb
      have e1 : addB a b = 0 := by simp [addB, hb']
      have e2 : addC a b = false := by simp [addC, hb']
      rw [e1, e2]
      go_enter Tryz.func254, Tryz.ntmps254
      go_wp2_with (go_at_call 122; refine (byteOk_spec _ _).mono ?_; rintro e w' ⟨rfl, rfl⟩)
      go_ret2
      exact ⟨rfl, rfl⟩
  · have ha' : bok a = false := by simpa using ha
    have e1 : addB a b = 0 := by simp [addB, ha']
    have e2 : addC a b = false := by simp [addC, ha']
    rw [e1, e2]
    go_enter Tryz.func254, Tryz.ntmps254
    go_wp2_with (go_at_call 122; refine (byteOk_spec _ _).mono ?_; rintro e w' ⟨rfl, rfl⟩)
    go_ret2
    exact ⟨rfl, rfl⟩

theorem plus_any (a b : Int) (w : World) (hA : 0 ≤ a ∧ a ≤ 255) (hB : 0 ≤ b ∧ b ≤ 255) :
    Calls Tryz.prog 246 #[.int .u8 a, .int .u8 b] w fun e w' => e = .returned (.tuple #[.int .u8 ((a + b) % 256), .bool (decide (255 < a + b))]) ∧ w' = w := by
  rw [show decide (255 < a + b) = decide ((a + b) % 256 < a) from decide_eq_decide.mpr (by omega)]
  go_enter Tryz.func246, Tryz.ntmps246
  go_wp2
  go_ret2
  exact ⟨rfl, rfl⟩
theorem joined_plus (a b : Int) (w : World) (hA : 0 ≤ a ∧ a ≤ 255) (hB : 0 ≤ b ∧ b ≤ 255) :
    Calls Tryz.prog 245 #[.func (Fn.func 246) #[.int .u8 a] #[], .int .u8 b] w fun e w' => e = .returned (.tuple #[.int .i64 ((a + b) % 256), .bool (decide (255 < a + b))]) ∧ w' = w := by
  go_enter Tryz.func245, Tryz.ntmps245
  go_wp2_with (go_at_call 246; refine (plus_any _ _ _ (by omega) (by omega)).mono ?_; rintro e w' ⟨rfl, rfl⟩)
  go_ret2
  exact ⟨rfl, rfl⟩
theorem addByte_impl (a b : Int) (w : World) :
    Calls Tryz.prog 188 #[.int .i64 a, .int .i64 b] w fun e w' => e = .returned (.tuple #[.int .i64 (addB a b), .bool (addC a b)]) ∧ w' = w := by
  by_cases ha : bok a = true
  · by_cases hb : bok b = true
    · have hA := bok_true ha
      have hB := bok_true hb
      have e1 : addB a b = (a + b) % 256 := by simp [addB, ha, hb]
      have e2 : addC a b = decide (255 < a + b) := by simp [addC, ha, hb]
      rw [e1, e2]
      go_enter Tryz.func188, Tryz.ntmps188
      go_wp2_with (first | (go_at_call 75; refine (byteOk_impl _ _).mono ?_; rintro e w' ⟨rfl, rfl⟩) | (go_at_call 245; refine (joined_plus _ _ _ hA hB).mono ?_; rintro e w' ⟨rfl, rfl⟩))
      go_ret2
      exact ⟨rfl, rfl⟩
    · have hb' : bok b = false := by simpa using hb
      have e1 : addB a b = 0 := by simp [addB, hb']
      have e2 : addC a b = false := by simp [addC, hb']
      rw [e1, e2]
      go_enter Tryz.func188, Tryz.ntmps188
      go_wp2_with (go_at_call 75; refine (byteOk_impl _ _).mono ?_; rintro e w' ⟨rfl, rfl⟩)
      go_ret2
      exact ⟨rfl, rfl⟩
  · have ha' : bok a = false := by simpa using ha
    have e1 : addB a b = 0 := by simp [addB, ha']
    have e2 : addC a b = false := by simp [addC, ha']
    rw [e1, e2]
    go_enter Tryz.func188, Tryz.ntmps188
    go_wp2_with (go_at_call 75; refine (byteOk_impl _ _).mono ?_; rintro e w' ⟨rfl, rfl⟩)
    go_ret2
    exact ⟨rfl, rfl⟩
def subB (a b : Int) : Int := if bok a && bok b then (a - b) % 256 else 0
def subC (a b : Int) : Bool := bok a && bok b && decide (a < b)

theorem subByte_spec (a b : Int) (w : World) :
    Calls Tryz.prog 255 #[.int .i64 a, .int .i64 b] w fun e w' => e = .returned (.tuple #[.int .i64 (subB a b), .bool (subC a b)]) ∧ w' = w := by
  by_cases ha : bok a = true
  · by_cases hb : bok b = true
    · have hA := bok_true ha
      have hB := bok_true hb
      have e1 : subB a b = (a - b + 256) % 256 := by simp [subB, ha, hb]
      have e2 : subC a b = decide (a < b) := by simp [subC, ha, hb]
      rw [e1, e2]
      go_enter Tryz.func255, Tryz.ntmps255
      go_wp2_with (go_at_call 122; refine (byteOk_spec _ _).mono ?_; rintro e w' ⟨rfl, rfl⟩)
      go_ret2
      exact ⟨rfl, rfl⟩
    · have hb' : bok b = false := by simpa using hb
      have e1 : subB a b = 0 := by simp [subB, hb']
      have e2 : subC a b = false := by simp [subC, hb']
      rw [e1, e2]
      go_enter Tryz.func255, Tryz.ntmps255
      go_wp2_with (go_at_call 122; refine (byteOk_spec _ _).mono ?_; rintro e w' ⟨rfl, rfl⟩)
      go_ret2
      exact ⟨rfl, rfl⟩
  · have ha' : bok a = false := by simpa using ha
    have e1 : subB a b = 0 := by simp [subB, ha']
    have e2 : subC a b = false := by simp [subC, ha']
    rw [e1, e2]
    go_enter Tryz.func255, Tryz.ntmps255
    go_wp2_with (go_at_call 122; refine (byteOk_spec _ _).mono ?_; rintro e w' ⟨rfl, rfl⟩)
    go_ret2
    exact ⟨rfl, rfl⟩

theorem minus_any (a b : Int) (w : World) (hA : 0 ≤ a ∧ a ≤ 255) (hB : 0 ≤ b ∧ b ≤ 255) :
    Calls Tryz.prog 248 #[.int .u8 a, .int .u8 b] w fun e w' => e = .returned (.tuple #[.int .u8 ((a - b) % 256), .bool (decide (a < b))]) ∧ w' = w := by
  go_enter Tryz.func248, Tryz.ntmps248
  go_wp2
  go_ret2
  exact ⟨rfl, rfl⟩
theorem joined_minus (a b : Int) (w : World) (hA : 0 ≤ a ∧ a ≤ 255) (hB : 0 ≤ b ∧ b ≤ 255) :
    Calls Tryz.prog 245 #[.func (Fn.func 248) #[.int .u8 a] #[], .int .u8 b] w fun e w' => e = .returned (.tuple #[.int .i64 ((a - b) % 256), .bool (decide (a < b))]) ∧ w' = w := by
  go_enter Tryz.func245, Tryz.ntmps245
  go_wp2_with (go_at_call 248; refine (minus_any _ _ _ (by omega) (by omega)).mono ?_; rintro e w' ⟨rfl, rfl⟩)
  go_ret2
  exact ⟨rfl, rfl⟩
theorem subByte_impl (a b : Int) (w : World) :
    Calls Tryz.prog 203 #[.int .i64 a, .int .i64 b] w fun e w' => e = .returned (.tuple #[.int .i64 (subB a b), .bool (subC a b)]) ∧ w' = w := by
  by_cases ha : bok a = true
  · by_cases hb : bok b = true
    · have hA := bok_true ha
      have hB := bok_true hb
      have e1 : subB a b = (a - b) % 256 := by simp [subB, ha, hb]
      have e2 : subC a b = decide (a < b) := by simp [subC, ha, hb]
      rw [e1, e2]
      go_enter Tryz.func203, Tryz.ntmps203
      go_wp2_with (first | (go_at_call 75; refine (byteOk_impl _ _).mono ?_; rintro e w' ⟨rfl, rfl⟩) | (go_at_call 245; refine (joined_minus _ _ _ hA hB).mono ?_; rintro e w' ⟨rfl, rfl⟩))
      go_ret2
      exact ⟨rfl, rfl⟩
    · have hb' : bok b = false := by simpa using hb
      have e1 : subB a b = 0 := by simp [subB, hb']
      have e2 : subC a b = false := by simp [subC, hb']
      rw [e1, e2]
      go_enter Tryz.func203, Tryz.ntmps203
      go_wp2_with (go_at_call 75; refine (byteOk_impl _ _).mono ?_; rintro e w' ⟨rfl, rfl⟩)
      go_ret2
      exact ⟨rfl, rfl⟩
  · have ha' : bok a = false := by simpa using ha
    have e1 : subB a b = 0 := by simp [subB, ha']
    have e2 : subC a b = false := by simp [subC, ha']
    rw [e1, e2]
    go_enter Tryz.func203, Tryz.ntmps203
    go_wp2_with (go_at_call 75; refine (byteOk_impl _ _).mono ?_; rintro e w' ⟨rfl, rfl⟩)
    go_ret2
    exact ⟨rfl, rfl⟩

def turnLB (a : Int) : Int := if bok a then 2 * a % 256 + a / 128 else 0
def turnLC (a : Int) : Bool := bok a && decide (127 < a)
def turnRB (a : Int) : Int := if bok a then a / 2 + 128 * (a % 2) else 0
def turnRC (a : Int) : Bool := bok a && (a % 2 == 1)

theorem turnedLeft_spec (a : Int) (w : World) :
    Calls Tryz.prog 256 #[.int .i64 a] w fun e w' => e = .returned (.tuple #[.int .i64 (turnLB a), .bool (turnLC a)]) ∧ w' = w := by
  by_cases ha : bok a = true
  · have hA := bok_true ha
    have e1 : turnLB a = 2 * a % 256 + a / 128 := by simp [turnLB, ha]
    have e2 : turnLC a = decide (127 < a) := by simp [turnLC, ha]
    rw [e1, e2]
    go_enter Tryz.func256, Tryz.ntmps256
    go_wp2_with (go_at_call 122; refine (byteOk_spec _ _).mono ?_; rintro e w' ⟨rfl, rfl⟩)
    go_ret2
    exact ⟨rfl, rfl⟩
  · have ha' : bok a = false := by simpa using ha
    have e1 : turnLB a = 0 := by simp [turnLB, ha']
    have e2 : turnLC a = false := by simp [turnLC, ha']
    rw [e1, e2]
    go_enter Tryz.func256, Tryz.ntmps256
    go_wp2_with (go_at_call 122; refine (byteOk_spec _ _).mono ?_; rintro e w' ⟨rfl, rfl⟩)
    go_ret2
    exact ⟨rfl, rfl⟩

theorem turnedRight_spec (a : Int) (w : World) :
    Calls Tryz.prog 257 #[.int .i64 a] w fun e w' => e = .returned (.tuple #[.int .i64 (turnRB a), .bool (turnRC a)]) ∧ w' = w := by
  by_cases ha : bok a = true
  · have hA := bok_true ha
    have e1 : turnRB a = a / 2 + 128 * (a % 2) := by simp [turnRB, ha]
    have e2 : turnRC a = (a % 2 == 1) := by simp [turnRC, ha]
    rw [e1, e2]
    go_enter Tryz.func257, Tryz.ntmps257
    go_wp2_with (go_at_call 122; refine (byteOk_spec _ _).mono ?_; rintro e w' ⟨rfl, rfl⟩)
    go_ret2
    exact ⟨rfl, rfl⟩
  · have ha' : bok a = false := by simpa using ha
    have e1 : turnRB a = 0 := by simp [turnRB, ha']
    have e2 : turnRC a = false := by simp [turnRC, ha']
    rw [e1, e2]
    go_enter Tryz.func257, Tryz.ntmps257
    go_wp2_with (go_at_call 122; refine (byteOk_spec _ _).mono ?_; rintro e w' ⟨rfl, rfl⟩)
    go_ret2
    exact ⟨rfl, rfl⟩

theorem or_left {a : Int} (hA : 0 ≤ a ∧ a ≤ 255) : bits BinOp.or IntKind.u8 (a * 2 % 256) (a / 128) = 2 * a % 256 + a / 128 := by
  have key : ∀ n : Fin 256, bits BinOp.or IntKind.u8 ((n.val : Int) * 2 % 256) ((n.val : Int) / 128) = 2 * (n.val : Int) % 256 + (n.val : Int) / 128 := by decide +kernel
  have h := key ⟨a.toNat, by omega⟩
  have e : ((a.toNat : Nat) : Int) = a := by omega
  simpa only [e] using h
theorem or_right {a : Int} (hA : 0 ≤ a ∧ a ≤ 255) : bits BinOp.or IntKind.u8 (a / 2) (a * 128 % 256) = a / 2 + 128 * (a % 2) := by
  have key : ∀ n : Fin 256, bits BinOp.or IntKind.u8 ((n.val : Int) / 2) ((n.val : Int) * 128 % 256) = (n.val : Int) / 2 + 128 * ((n.val : Int) % 2) := by decide +kernel
  have h := key ⟨a.toNat, by omega⟩
  have e : ((a.toNat : Nat) : Int) = a := by omega
  simpa only [e] using h
theorem left_any (a : Int) (w : World) (hA : 0 ≤ a ∧ a ≤ 255) :
    Calls Tryz.prog 250 #[.int .u8 a] w fun e w' => e = .returned (.tuple #[.int .u8 (2 * a % 256 + a / 128), .bool (decide (127 < a))]) ∧ w' = w := by
  rw [← or_left hA]
  go_enter Tryz.func250, Tryz.ntmps250
  go_wp2
  go_ret2
  exact ⟨rfl, rfl⟩
theorem right_any (a : Int) (w : World) (hA : 0 ≤ a ∧ a ≤ 255) :
    Calls Tryz.prog 251 #[.int .u8 a] w fun e w' => e = .returned (.tuple #[.int .u8 (a / 2 + 128 * (a % 2)), .bool (a % 2 == 1)]) ∧ w' = w := by
  rw [← or_right hA]
  go_enter Tryz.func251, Tryz.ntmps251
  go_wp2
  go_ret2
  exact ⟨rfl, rfl⟩
theorem turned_left (a : Int) (w : World) (hA : 0 ≤ a ∧ a ≤ 255) :
    Calls Tryz.prog 249 #[.func (Fn.func 250) #[.int .u8 a] #[]] w fun e w' => e = .returned (.tuple #[.int .i64 (2 * a % 256 + a / 128), .bool (decide (127 < a))]) ∧ w' = w := by
  go_enter Tryz.func249, Tryz.ntmps249
  go_wp2_with (go_at_call 250; refine (left_any _ _ hA).mono ?_; rintro e w' ⟨rfl, rfl⟩)
  go_ret2
  exact ⟨rfl, rfl⟩
theorem turned_right (a : Int) (w : World) (hA : 0 ≤ a ∧ a ≤ 255) :
    Calls Tryz.prog 249 #[.func (Fn.func 251) #[.int .u8 a] #[]] w fun e w' => e = .returned (.tuple #[.int .i64 (a / 2 + 128 * (a % 2)), .bool (a % 2 == 1)]) ∧ w' = w := by
  go_enter Tryz.func249, Tryz.ntmps249
  go_wp2_with (go_at_call 251; refine (right_any _ _ hA).mono ?_; rintro e w' ⟨rfl, rfl⟩)
  go_ret2
  exact ⟨rfl, rfl⟩
theorem turnedLeft_impl (a : Int) (w : World) :
    Calls Tryz.prog 209 #[.int .i64 a] w fun e w' => e = .returned (.tuple #[.int .i64 (turnLB a), .bool (turnLC a)]) ∧ w' = w := by
  by_cases ha : bok a = true
  · have hA := bok_true ha
    have e1 : turnLB a = 2 * a % 256 + a / 128 := by simp [turnLB, ha]
    have e2 : turnLC a = decide (127 < a) := by simp [turnLC, ha]
    rw [e1, e2]
    go_enter Tryz.func209, Tryz.ntmps209
    go_wp2_with (first | (go_at_call 75; refine (byteOk_impl _ _).mono ?_; rintro e w' ⟨rfl, rfl⟩) | (go_at_call 249; refine (turned_left _ _ hA).mono ?_; rintro e w' ⟨rfl, rfl⟩))
    go_ret2
    exact ⟨rfl, rfl⟩
  · have ha' : bok a = false := by simpa using ha
    have e1 : turnLB a = 0 := by simp [turnLB, ha']
    have e2 : turnLC a = false := by simp [turnLC, ha']
    rw [e1, e2]
    go_enter Tryz.func209, Tryz.ntmps209
    go_wp2_with (go_at_call 75; refine (byteOk_impl _ _).mono ?_; rintro e w' ⟨rfl, rfl⟩)
    go_ret2
    exact ⟨rfl, rfl⟩
theorem turnedRight_impl (a : Int) (w : World) :
    Calls Tryz.prog 211 #[.int .i64 a] w fun e w' => e = .returned (.tuple #[.int .i64 (turnRB a), .bool (turnRC a)]) ∧ w' = w := by
  by_cases ha : bok a = true
  · have hA := bok_true ha
    have e1 : turnRB a = a / 2 + 128 * (a % 2) := by simp [turnRB, ha]
    have e2 : turnRC a = (a % 2 == 1) := by simp [turnRC, ha]
    rw [e1, e2]
    go_enter Tryz.func211, Tryz.ntmps211
    go_wp2_with (first | (go_at_call 75; refine (byteOk_impl _ _).mono ?_; rintro e w' ⟨rfl, rfl⟩) | (go_at_call 249; refine (turned_right _ _ hA).mono ?_; rintro e w' ⟨rfl, rfl⟩))
    go_ret2
    exact ⟨rfl, rfl⟩
  · have ha' : bok a = false := by simpa using ha
    have e1 : turnRB a = 0 := by simp [turnRB, ha']
    have e2 : turnRC a = false := by simp [turnRC, ha']
    rw [e1, e2]
    go_enter Tryz.func211, Tryz.ntmps211
    go_wp2_with (go_at_call 75; refine (byteOk_impl _ _).mono ?_; rintro e w' ⟨rfl, rfl⟩)
    go_ret2
    exact ⟨rfl, rfl⟩
end Go.Proofs.YtghmkacamabndaaGreatDoor.Num
namespace Go.Proofs.YtghmkacamabndaaGreatDoor.Base
open Go.RowKit

structure Onto (p : Nat) (w w' : World) : Prop where
  os : w'.os = w.os
  tape : w'.tape = w.tape
  output : w'.output = w.output
  size : w.heap.size ≤ w'.heap.size
  block : ∀ k, k ≠ p → k < w.heap.size → w'.heap[k]? = w.heap[k]?

theorem Onto.refl (p : Nat) (w : World) : Onto p w w := ⟨rfl, rfl, rfl, Nat.le_refl _, fun _ _ _ => rfl⟩
theorem Onto.trans {p : Nat} {a b c : World} (h : Onto p a b) (k : Onto p b c) : Onto p a c :=
  ⟨k.os.trans h.os, k.tape.trans h.tape, k.output.trans h.output, Nat.le_trans h.size k.size, fun i hi hl => (k.block i hi (Nat.lt_of_lt_of_le hl h.size)).trans (h.block i hi hl)⟩
theorem Onto.drew {p : Nat} {a w : World} (h : Onto p a w) : Onto p a w.drew := ⟨h.os, h.tape, h.output, h.size, h.block⟩
theorem Onto.drewN {p : Nat} {a w : World} (h : Onto p a w) (n : Nat) : Onto p a (w.drewN n) := ⟨h.os, h.tape, h.output, h.size, h.block⟩
theorem Onto.alloc {p : Nat} {a w : World} (h : Onto p a w) (o : Obj) : Onto p a (w.alloc o) :=
  h.trans ⟨rfl, rfl, rfl, by simp, fun k _ hk => Below.heap_alloc _ _ _ hk⟩
theorem Onto.setCell {p : Nat} {a w : World} (h : Onto p a w) {q : Addr} (hq : q.block = p) (u : Value) : Onto p a (w.setCell q u) :=
  h.trans ⟨rfl, rfl, rfl, by simp [World.setCell], fun k hk _ => Below.heap_setCell _ _ _ _ (by omega)⟩
theorem Onto.below {p : Nat} {w w' : World} (h : Onto p w w') {B : Nat} (hB : B ≤ p) (hw : B ≤ w.heap.size) : Below B w w' :=
  ⟨h.os, h.tape, h.output, h.size, fun k hk => h.block k (by omega) (by omega)⟩
theorem Onto.cell {p : Nat} {w w' : World} (h : Onto p w w') {q : Addr} (hq : q.block ≠ p) (hl : q.block < w.heap.size) : w'.cell? q = w.cell? q :=
  World.cell?_of_block (w := w) (h.block q.block hq hl)
theorem Onto.frozen {p : Nat} {w w' : World} (h : Onto p w w') {q : Addr} (hq : q.block ≠ p) (hl : q.block < w.heap.size) : w'.frozen? q = w.frozen? q :=
  World.frozen?_of_block (w := w) (h.block q.block hq hl)

theorem cell_lt {w : World} {q : Addr} {v : Value} (h : w.cell? q = some v) : q.block < w.heap.size := by
  by_cases hl : q.block < w.heap.size
  · exact hl
  · have e : w.heap[q.block]? = none := by simp; omega
    simp [World.cell?, e] at h

theorem and_mask (x m : Int) (h0 : 0 ≤ m) (h1 : m < 9223372036854775808) : 0 ≤ bits .and .i64 x m ∧ bits .and .i64 x m ≤ m := by
  have hm : (BitVec.ofInt 64 m).toNat = m.toNat := by
    rw [BitVec.toNat_ofInt]
    omega
  have hle : (BitVec.ofInt 64 x &&& BitVec.ofInt 64 m).toNat ≤ m.toNat := by
    rw [BitVec.toNat_and, hm]; exact Nat.and_le_right
  show 0 ≤ IntKind.i64.wrap ((BitVec.ofInt 64 x &&& BitVec.ofInt 64 m).toNat : Int) ∧ IntKind.i64.wrap ((BitVec.ofInt 64 x &&& BitVec.ofInt 64 m).toNat : Int) ≤ m
  generalize (BitVec.ofInt 64 x &&& BitVec.ofInt 64 m).toNat = r at hle
  have e : IntKind.i64.wrap (r : Int) = (r : Int) := by
    simp [IntKind.wrap, IntKind.bits, IntKind.signed]
    omega
  rw [e]
  omega
theorem ret_int {k : IntKind} {a b : Int} (h : a = b) : Ending.returned (.int k a) = .returned (.int k b) := by rw [h]

theorem ret_bool {a b : Bool} (h : a = b) : Ending.returned (.bool a) = .returned (.bool b) := by rw [h]

def CodeAt (w : World) (a : Option Addr) (len : Nat) : Prop :=
  len = 0 ∨ ∃ b off, a = some ⟨b, off, none⟩ ∧ b < w.heap.size ∧ ∀ i, i < len → ∃ z : Int, w.cell? ⟨b, off + i, none⟩ = some (.int .u8 z) ∧ 0 ≤ z ∧ z ≤ 255
theorem CodeAt.onto {p : Nat} {w w' : World} {a : Option Addr} {len : Nat} (h : CodeAt w a len) (ho : Onto p w w') (hp : 0 < len → ∀ x, a = some x → x.block ≠ p) : CodeAt w' a len := by
  rcases h with h | ⟨b, off, rfl, hb, hc⟩
  · exact .inl h
  · refine .inr ⟨b, off, rfl, Nat.lt_of_lt_of_le hb ho.size, fun i hi => ?_⟩
    obtain ⟨z, hz, h0⟩ := hc i hi
    exact ⟨z, by rw [ho.cell (q := ⟨b, off + i, none⟩) (hp (by omega) ⟨b, off, none⟩ rfl) hb]; exact hz, h0⟩
theorem CodeAt.below {w w' : World} {a : Option Addr} {len : Nat} (h : CodeAt w a len) (ho : Below w.heap.size w w') : CodeAt w' a len := by
  rcases h with h | ⟨b, off, rfl, hb, hc⟩
  · exact .inl h
  · refine .inr ⟨b, off, rfl, Nat.lt_of_lt_of_le hb ho.size, fun i hi => ?_⟩
    obtain ⟨z, hz, h0⟩ := hc i hi
    exact ⟨z, by rw [ho.cell (p := ⟨b, off + i, none⟩) hb]; exact hz, h0⟩
theorem CodeAt.keep {w w' : World} {a : Option Addr} {len : Nat} (h : CodeAt w a len) (hs : w.heap.size ≤ w'.heap.size) (hk : 0 < len → ∀ x, a = some x → w'.heap[x.block]? = w.heap[x.block]?) : CodeAt w' a len := by
  rcases h with h | ⟨b, off, rfl, hb, hc⟩
  · exact .inl h
  · by_cases h0 : 0 < len
    · refine .inr ⟨b, off, rfl, Nat.lt_of_lt_of_le hb hs, fun i hi => ?_⟩
      obtain ⟨z, hz, hb⟩ := hc i hi
      exact ⟨z, by rw [World.cell?_of_block (w := w) (a := ⟨b, off + i, none⟩) (hk h0 ⟨b, off, none⟩ rfl)]; exact hz, hb⟩
    · exact .inl (by omega)
theorem CodeAt.lt {w : World} {a : Option Addr} {len : Nat} (h : CodeAt w a len) : 0 < len → ∀ x, a = some x → x.block < w.heap.size := by
  intro h0 x hx
  rcases h with h | ⟨b, off, rfl, hb, hc⟩
  · omega
  · cases hx; exact hb
end Go.Proofs.YtghmkacamabndaaGreatDoor.Base
namespace Go.Proofs.YtghmkacamabndaaGreatDoor.Slc
open Go.RowKit Base

def IntsAt (w : World) (a : Option Addr) (len : Nat) (l : List Int) : Prop :=
  l.length = len ∧ (len = 0 ∨ ∃ b off, a = some ⟨b, off, none⟩ ∧ b < w.heap.size ∧ ∀ i, i < len → w.cell? ⟨b, off + i, none⟩ = some (.int .i64 (l.getD i 0)))
theorem IntsAt.below {w w' : World} {a : Option Addr} {len : Nat} {l : List Int} (h : IntsAt w a len l) (ho : Below w.heap.size w w') : IntsAt w' a len l := by
  refine ⟨h.1, ?_⟩
  rcases h.2 with h | ⟨b, off, rfl, hb, hc⟩
  · exact .inl h
  · exact .inr ⟨b, off, rfl, Nat.lt_of_lt_of_le hb ho.size, fun i hi => by rw [ho.cell (p := ⟨b, off + i, none⟩) hb]; exact hc i hi⟩
theorem IntsAt.onto {p : Nat} {w w' : World} {a : Option Addr} {len : Nat} {l : List Int} (h : IntsAt w a len l) (ho : Onto p w w') (hp : 0 < len → ∀ x, a = some x → x.block ≠ p) : IntsAt w' a len l := by
  refine ⟨h.1, ?_⟩
  rcases h.2 with h | ⟨b, off, rfl, hb, hc⟩
  · exact .inl h
  · by_cases hl : 0 < len
    · exact .inr ⟨b, off, rfl, Nat.lt_of_lt_of_le hb ho.size, fun i hi => by rw [ho.cell (q := ⟨b, off + i, none⟩) (hp hl ⟨b, off, none⟩ rfl) hb]; exact hc i hi⟩
    · exact .inl (by omega)
theorem IntsAt.drewN {w : World} {a : Option Addr} {len : Nat} {l : List Int} (h : IntsAt w a len l) (n : Nat) : IntsAt (w.drewN n) a len l := h
theorem IntsAt.nil (w : World) (a : Option Addr) : IntsAt w a 0 [] := ⟨rfl, .inl rfl⟩
theorem IntsAt.take {w : World} {a : Option Addr} {len : Nat} {l : List Int} (h : IntsAt w a len l) (n : Nat) (hn : n ≤ len) : IntsAt w a n (l.take n) := by
  refine ⟨by simp [h.1]; omega, ?_⟩
  rcases h.2 with h0 | ⟨b, off, rfl, hb, hc⟩
  · exact .inl (by omega)
  · refine .inr ⟨b, off, rfl, hb, fun i hi => ?_⟩
    rw [hc i (by omega)]
    simp [List.getD_eq_getElem?_getD, List.getElem?_take, hi]
theorem ints_of {w : World} {a : Option Addr} {len cap : Nat} {zs : List Int} (h : (a = none ∧ len = 0 ∧ cap = 0 ∧ zs = []) ∨
    ∃ x, a = some x ∧ len ≤ cap ∧ cap ≤ maxLen ∧ zs.length = cap ∧ (∀ i, i < zs.length → w.cell? (x.add i) = some (.int .i64 (zs.getD i 0))) ∧ ∀ n ∈ zs, (Lit.int .i64 n).wf = true) : IntsAt w a len (zs.take len) := by
  rcases h with ⟨h0, h1, _, rfl⟩ | ⟨⟨b, off, spot⟩, rfl, hl, hm, hz, hcell, hwz⟩
  · exact ⟨by simp [h1], .inl h1⟩
  · refine ⟨by simp; omega, ?_⟩
    by_cases h0 : len = 0
    · exact .inl h0
    · have hc := hcell 0 (by omega)
      have hspot : spot = none := by simpa [Addr.add] using World.cell?_spot hc
      subst hspot
      refine .inr ⟨b, off, rfl, cell_lt hc, fun i hi => ?_⟩
      have hci := hcell i (by omega)
      have e : (⟨b, off, none⟩ : Addr).add i = ⟨b, off + i, none⟩ := by
        by_cases hi0 : i = 0 <;> simp [Addr.add, hi0]
      rw [← e, hci]
      simp [List.getD_eq_getElem?_getD, List.getElem?_take, hi]

def Own (base : Nat) (w : World) (v : Value) (l : List Int) : Prop := w.ownsRow base 2 1 v l.length (l.map (Value.int .i64))
theorem Own.nil (base : Nat) (w : World) : Own base w (.slice none 0 0) [] := World.ownsRow_nil _ _ _ _
theorem Own.shape {base : Nat} {w : World} {v : Value} {l : List Int} (h : Own base w v l) : ∃ a cap, v = .slice a l.length cap ∧ IntsAt w a l.length l ∧ l.length ≤ maxLen ∧ (∀ x, a = some x → base ≤ x.block ∧ x.block < w.heap.size) := by
  rcases h.2 with ⟨rfl, h0⟩ | ⟨g, cap, cur, rfl, hb, hg, hn, hm, hcs, ht⟩
  · exact ⟨none, 0, by rw [h0], ⟨rfl, .inl h0⟩, by omega, by simp⟩
  · have hlt : g < w.heap.size := (Array.getElem?_eq_some_iff.1 hg).1
    refine ⟨some ⟨g, 0, none⟩, cap, rfl, ⟨rfl, .inr ⟨g, 0, rfl, hlt, fun i hi => ?_⟩⟩, by omega, fun x hx => by cases hx; exact ⟨hb, hlt⟩⟩
    have := World.ownsRow.cells h (g := g) rfl i (.int .i64 (l.getD i 0)) (by simp [List.getD_eq_getElem?_getD, List.getElem?_eq_getElem hi])
    have e : (⟨g, 0, none⟩ : Addr).add i = ⟨g, 0 + i, none⟩ := by
      by_cases hi0 : i = 0 <;> simp [Addr.add, hi0]
    rw [← e]; exact this
theorem Own.mono {base base' : Nat} {w : World} {v : Value} {l : List Int} (h : Own base w v l) (hb : base' ≤ base) : Own base' w v l := by
  refine ⟨h.1, ?_⟩
  rcases h.2 with h0 | ⟨g, cap, cur, rfl, hb', rest⟩
  · exact .inl h0
  · exact .inr ⟨g, cap, cur, rfl, Nat.le_trans hb hb', rest⟩
theorem Own.kept {base : Nat} {w w' : World} {v : Value} {l : List Int} (h : Own base w v l) (hk : ∀ k, v.ownBlock = some k → w'.heap[k]? = w.heap[k]?) : Own base w' v l := by
  refine ⟨h.1, ?_⟩
  rcases h.2 with h0 | ⟨g, cap, cur, rfl, hb, hg, rest⟩
  · exact .inl h0
  · exact .inr ⟨g, cap, cur, rfl, hb, by rw [hk g rfl]; exact hg, rest⟩
theorem Own.lt {base : Nat} {w : World} {v : Value} {l : List Int} (h : Own base w v l) : ∀ k, v.ownBlock = some k → base ≤ k ∧ k < w.heap.size := World.ownsRow.lt h
theorem Own.below {base : Nat} {w w' : World} {v : Value} {l : List Int} (h : Own base w v l) (hb : Below w.heap.size w w') : Own base w' v l :=
  h.kept fun k hk => hb.block k (h.lt k hk).2
theorem Own.onto {base p : Nat} {w w' : World} {v : Value} {l : List Int} (h : Own base w v l) (ho : Onto p w w') (hp : v.ownBlock ≠ some p) : Own base w' v l :=
  h.kept fun k hk => ho.block k (fun e => hp (by rw [hk, e])) (h.lt k hk).2
theorem Own.drewN {base : Nat} {w : World} {v : Value} {l : List Int} (h : Own base w v l) (n : Nat) : Own base (w.drewN n) v l := h
theorem below_drewN {B : Nat} {w w' : World} (h : Below B w w') (n : Nat) : Below B w (w'.drewN n) := ⟨h.os, h.tape, h.output, h.size, h.block⟩

theorem drew_below {w w' : World} {n : Nat} (h : w' = w.drewN n) : Below w.heap.size w w' := by rw [h]; exact below_drewN (Below.refl _ _) n

theorem getD_take {l : List Int} {k : Nat} (h : k < l.length) : l.take (k + 1) = l.take k ++ [l.getD k 0] := by
  rw [List.take_succ_eq_append_getElem h]
  simp [List.getD_eq_getElem?_getD, List.getElem?_eq_getElem h]

def Sl (w : World) (v : Value) (l : List Int) : Prop :=
  ∃ a cap, v = .slice a l.length cap ∧ IntsAt w a l.length l ∧ l.length ≤ cap ∧ cap ≤ maxLen ∧ (a = none → l.length = 0 ∧ cap = 0)
theorem sl_of {w : World} {a : Option Addr} {len cap : Nat} {zs : List Int} (h : (a = none ∧ len = 0 ∧ cap = 0 ∧ zs = []) ∨
    ∃ x, a = some x ∧ len ≤ cap ∧ cap ≤ maxLen ∧ zs.length = cap ∧ (∀ i, i < zs.length → w.cell? (x.add i) = some (.int .i64 (zs.getD i 0))) ∧ ∀ n ∈ zs, (Lit.int .i64 n).wf = true) : Sl w (.slice a len cap) (zs.take len) := by
  have hi := ints_of h
  have hl : (zs.take len).length = len := hi.1
  refine ⟨a, cap, by rw [hl], by rw [hl]; exact hi, ?_⟩
  rw [hl]
  rcases h with ⟨rfl, rfl, rfl, rfl⟩ | ⟨x, rfl, h1, h2, _⟩
  · exact ⟨Nat.le_refl _, by decide, fun _ => ⟨rfl, rfl⟩⟩
  · exact ⟨h1, h2, by simp⟩
theorem Sl.below {w w' : World} {v : Value} {l : List Int} (h : Sl w v l) (hb : Below w.heap.size w w') : Sl w' v l := by
  obtain ⟨a, cap, rfl, h1, h2⟩ := h
  exact ⟨a, cap, rfl, h1.below hb, h2⟩
theorem Sl.drewN {w : World} {v : Value} {l : List Int} (h : Sl w v l) (n : Nat) : Sl (w.drewN n) v l := h
theorem Own.sl {base : Nat} {w : World} {v : Value} {l : List Int} (h : Own base w v l) : Sl w v l := by
  obtain ⟨a, cap, hv, hi, hm, hx⟩ := h.shape
  refine ⟨a, cap, hv, hi, ?_⟩
  rcases h.2 with ⟨rfl, h0⟩ | ⟨g, cap', cur, rfl, hb, hg, hn, hm', hcs, ht⟩
  · simp only [Value.slice.injEq] at hv
    obtain ⟨rfl, h1, rfl⟩ := hv
    exact ⟨by omega, by decide, fun _ => ⟨h0, rfl⟩⟩
  · simp only [Value.slice.injEq] at hv
    obtain ⟨rfl, _, rfl⟩ := hv
    exact ⟨hn, hm', by simp⟩
theorem Sl.lt {w : World} {v : Value} {l : List Int} (h : Sl w v l) (h0 : 0 < l.length) : ∀ k, v.ownBlock = some k → k < w.heap.size := by
  obtain ⟨a, cap, rfl, h1, h2⟩ := h
  rcases h1.2 with h | ⟨b, off, rfl, hb, hc⟩
  · omega
  · intro k hk
    simp [Value.ownBlock] at hk
    omega
theorem Sl.grown {w w' : World} {v : Value} {l : List Int} {row : Option Nat} (h : Sl w v l) (hg : w.grownBy w' row) (hr : 0 < l.length → ∀ k, row = some k → v.ownBlock ≠ some k) : Sl w' v l := by
  obtain ⟨a, cap, rfl, h1, h2⟩ := h
  refine ⟨a, cap, rfl, ⟨h1.1, ?_⟩, h2⟩
  rcases h1.2 with h0 | ⟨b, off, rfl, hb, hc⟩
  · exact .inl h0
  · by_cases h0 : 0 < l.length
    · refine .inr ⟨b, off, rfl, Nat.lt_of_lt_of_le hb hg.size, fun i hi => ?_⟩
      rw [World.cell?_of_block (w := w) (a := ⟨b, off + i, none⟩) (hg.block b hb (fun e => hr h0 b e.symm rfl))]
      exact hc i hi
    · exact .inl (by omega)
theorem Own.grown {base : Nat} {w w' : World} {v : Value} {l : List Int} {row : Option Nat} (h : Own base w v l) (hg : w.grownBy w' row) (hr : ∀ k, row = some k → v.ownBlock ≠ some k) : Own base w' v l :=
  h.kept fun k hk => hg.block k (h.lt k hk).2 (fun e => hr k e.symm hk)

theorem info64 : (Tryz.prog.info? 2).map (fun i => (i.zero, i.size, i.bytes)) = some (some (.int .i64 0), 1, 8) := by kernel_rfl
theorem und64 : Tryz.prog.underlying 24 = some (.slice 2) := by kernel_rfl

theorem app {w : World} {ops : Array Oper} {rest : List Oper} {o : Oper} {a : Act} {Q : Exit → Act → World → Prop} (hgd : o.guard = none) (s x : Operand)
    (ho : o.op = .call { callee := .builtin .append, args := #[s, x], argTypes := #[24, 24] })
    (base : Nat) (l news : List Int) (hown : Own base w (a.eval s) l) (hn : Sl w (a.eval x) news) (hbd : l.length + news.length ≤ 17592186044416) (hbase : base ≤ w.heap.size)
    (h : ∀ v' w', Own base w' v' (l ++ news) → w.grownBy w' (a.eval s).ownBlock → wpList Tryz.prog ops Q rest (a.put o.dst v') w') : wpList Tryz.prog ops Q (o :: rest) a w := by
  obtain ⟨i0, hi, hz0, hz1, hz2⟩ := info_parts info64
  obtain ⟨ao, cap, hx, hat, hlc, hcm, hnil⟩ := hn
  cases ao with
  | none =>
    obtain ⟨h0, rfl⟩ := hnil rfl
    have : news = [] := List.eq_nil_of_length_eq_zero h0
    subst this
    refine wpList_append_own_none hgd s x 24 ho base 2 i0 1 und64 hi (a.eval s) l.length (l.map (Value.int .i64)) rfl hown hx ?_
    have hh := h (a.eval s) w (by simpa using hown) (World.grownBy.refl w _)
    exact hh
  | some ad =>
    refine wpList_append_own w hgd s x 24 ho base 2 i0 (.int .i64 0) 1 8 und64 hi hz0 hz1 hz2 rfl (by decide) (a.eval s) l.length (l.map (Value.int .i64)) rfl hown ad news.length cap (news.map (Value.int .i64)) hx (by simp) ?_ (ints_oneCell _ _) (by unfold maxLen; omega) (by omega) hbase ?_
    · intro j u hj
      have hjl : j < news.length := by
        have := (List.getElem?_eq_some_iff.1 hj).1
        simpa using this
      rcases hat.2 with h0 | ⟨b, off, hb, hbs, hc⟩
      · omega
      · cases hb
        have hcj := hc j hjl
        have e : (⟨b, off, none⟩ : Addr).add j = ⟨b, off + j, none⟩ := by
          by_cases hi0 : j = 0 <;> simp [Addr.add, hi0]
        rw [e, hcj]
        simp [List.getElem?_eq_getElem hjl] at hj
        rw [← hj, List.getD_eq_getElem?_getD, List.getElem?_eq_getElem hjl]
        rfl
    · intro v' w' h2 h3 _
      refine h v' w' ?_ h3
      unfold Own
      rw [List.length_append, List.map_append]
      exact h2
theorem own_lit (base : Nat) (w : World) (cs : Array Value) (l : List Int) (hc : cs.toList = l.map (Value.int .i64)) (hm : l.length ≤ maxLen) (hb : base ≤ w.heap.size) :
    Own base (w.alloc (.cells cs 2)) (.slice (some ⟨w.heap.size, 0, none⟩) l.length l.length) l := by
  have hs : cs.size = l.length := by rw [← Array.length_toList, hc, List.length_map]
  exact ⟨by simp, .inr ⟨w.heap.size, l.length, cs, rfl, hb, heap_alloc_new w _, Nat.le_refl _, hm, by omega, by rw [← hc, List.take_of_length_le (by simp; omega)]⟩⟩
theorem grown_trans {a b c : World} {row : Option Nat} (h : a.grownBy b row) (k : b.grownBy c row) : a.grownBy c row :=
  ⟨k.os.trans h.os, k.tape.trans h.tape, k.output.trans h.output, Nat.le_trans h.size k.size, fun i hi hr => (k.block i (Nat.lt_of_lt_of_le hi h.size) hr).trans (h.block i hi hr)⟩
theorem Own.block {base : Nat} {w : World} {v : Value} {l : List Int} (h : Own base w v l) (h0 : 0 < l.length) : ∃ g cap, v = .slice (some ⟨g, 0, none⟩) l.length cap ∧ base ≤ g ∧ g < w.heap.size ∧ l.length ≤ cap ∧ cap ≤ maxLen := by
  have hlt := h.lt
  rcases h.2 with ⟨rfl, hn⟩ | ⟨g, cap, cur, rfl, hb, hg, hn, hm, hcs, ht⟩
  · omega
  · exact ⟨g, cap, rfl, hb, (hlt g rfl).2, hn, hm⟩
theorem Own.store {base g n cap : Nat} {w : World} {l : List Int} (h : Own base w (.slice (some ⟨g, 0, none⟩) n cap) l) (j : Nat) (x : Int) :
    Own base (w.setCell ⟨g, j, none⟩ (.int .i64 x)) (.slice (some ⟨g, 0, none⟩) n cap) (l.set j x) ∧ w.grownBy (w.setCell ⟨g, j, none⟩ (.int .i64 x)) (some g) := by
  have hn : l.length = n := by
    obtain ⟨a, c, he, _⟩ := h.shape
    simp only [Value.slice.injEq] at he
    exact he.2.1.symm
  subst hn
  have hs := World.ownsRow.stored h j (.int .i64 x)
  refine ⟨?_, hs.2⟩
  unfold Own
  rw [List.length_set, List.map_set]
  exact hs.1
theorem Own.cellAt {base g n cap : Nat} {w : World} {l : List Int} (h : Own base w (.slice (some ⟨g, 0, none⟩) n cap) l) {j : Nat} (hj : j < l.length) : w.cell? ⟨g, j, none⟩ = some (.int .i64 (l.getD j 0)) := by
  have hn : l.length = n := by
    obtain ⟨a, c, he, _⟩ := h.shape
    simp only [Value.slice.injEq] at he
    exact he.2.1.symm
  subst hn
  rw [World.ownsRow.cellAt h j (by omega)]
  simp [List.getD_eq_getElem?_getD, List.getElem?_eq_getElem hj]
theorem Own.free {base g n cap : Nat} {w : World} {l : List Int} (h : Own base w (.slice (some ⟨g, 0, none⟩) n cap) l) (j : Nat) : w.frozen? ⟨g, j, none⟩ = false := by
  have hn : l.length = n := by
    obtain ⟨a, c, he, _⟩ := h.shape
    simp only [Value.slice.injEq] at he
    exact he.2.1.symm
  subst hn
  exact World.ownsRow.frozenAt h j
theorem make64 {w : World} {ops : Array Oper} {rest : List Oper} {o : Oper} {a : Act} {Q : Exit → Act → World → Prop} (hgd : o.guard = none) (s x : Operand)
    (ho : o.op = .makeSlice 24 s x) (base n : Nat) (z : Int) (hz : z = (n : Int)) (hs : a.eval s = .int .i64 z) (hx : a.eval x = .int .i64 z) (hbd : n ≤ 17592186044416) (hbase : base ≤ w.heap.size)
    (h : ∀ w', Own base w' (.slice (some ⟨w.heap.size, 0, none⟩) n n) (List.replicate n 0) → w.grownBy w' none → wpList Tryz.prog ops Q rest (a.put o.dst (.slice (some ⟨w.heap.size, 0, none⟩) n n)) w') : wpList Tryz.prog ops Q (o :: rest) a w := by
  obtain ⟨i0, hi, hz0, hz1, hz2⟩ := info_parts info64
  refine wpList_make_full w hgd s x 24 ho base 2 i0 (.int .i64 0) 1 und64 hi hz0 hz1 .i64 .i64 z z n hs hx hz hz (by rw [hz2]; omega) (by unfold maxLen; omega) hbase ?_
  intro w' h1 h2
  refine h w' ?_ h2
  unfold Own
  have e : (madeCells (Value.int .i64 0).cells (n * 1)).toList = List.replicate n (Value.int .i64 0) := by
    have := toList_madeCells_one (.int .i64 0) n
    rw [Nat.mul_one]; exact this
  rw [e] at h1
  simpa using h1
end Go.Proofs.YtghmkacamabndaaGreatDoor.Slc
namespace Go.Proofs.YtghmkacamabndaaGreatDoor.Rw
open Go.RowKit Base

structure Row (w : World) (b : Nat) (cs : Array Value) (T : TypeId) : Prop where
  row : w.heap[b]? = some (.cells cs T (0, 0))
  cell : ∀ o, w.cell? ⟨b, o, none⟩ = cs[o]?
  free : ∀ o, w.frozen? ⟨b, o, none⟩ = false
  lt : b < w.heap.size
theorem Row.of {w : World} {b : Nat} {cs : Array Value} {T : TypeId} (h : w.heap[b]? = some (.cells cs T (0, 0))) : Row w b cs T :=
  ⟨h, fun o => cell_of_row w b o cs T (0, 0) h, fun o => frozen_of_row w b o cs T h, by
    by_cases hl : b < w.heap.size
    · exact hl
    · simp at hl; simp [hl] at h⟩
theorem Row.new (w : World) (cs : Array Value) (T : TypeId) : Row (w.alloc (.cells cs T)) w.heap.size cs T := Row.of (heap_alloc_new _ _)
theorem Row.new1 {w : World} {n : Nat} (h : w.heap.size = n) (cs : Array Value) (T : TypeId) : Row (w.alloc (.cells cs T)) n cs T := h ▸ Row.new w cs T
theorem Row.keep {w w' : World} {b : Nat} {cs : Array Value} {T : TypeId} (h : Row w b cs T) (hk : w'.heap[b]? = w.heap[b]?) : Row w' b cs T := Row.of (hk.trans h.row)
theorem Row.below {w w' : World} {b : Nat} {cs : Array Value} {T : TypeId} (h : Row w b cs T) (hb : Below w.heap.size w w') : Row w' b cs T := h.keep (hb.block b h.lt)
theorem Row.alloc {w : World} {b : Nat} {cs : Array Value} {T : TypeId} (h : Row w b cs T) (o : Obj) : Row (w.alloc o) b cs T := h.below ((Below.refl _ _).alloc (Nat.le_refl _) _)
theorem Row.drewN {w : World} {b : Nat} {cs : Array Value} {T : TypeId} (h : Row w b cs T) (n : Nat) : Row (w.drewN n) b cs T := h.keep rfl
theorem Row.onto {p : Nat} {w w' : World} {b : Nat} {cs : Array Value} {T : TypeId} (h : Row w b cs T) (ho : Onto p w w') (hp : b ≠ p) : Row w' b cs T := h.keep (ho.block b hp h.lt)
theorem Row.set {w : World} {b : Nat} {cs : Array Value} {T : TypeId} (h : Row w b cs T) (i : Nat) (v : Value) : Row (w.setCell ⟨b, i, none⟩ v) b (cs.setIfInBounds i v) T := Row.of (heap_setCell_same w b i cs T v h.row)
theorem Row.setOther {w : World} {b : Nat} {cs : Array Value} {T : TypeId} (h : Row w b cs T) (q : Addr) (v : Value) (hq : b ≠ q.block) : Row (w.setCell q v) b cs T := h.keep (heap_setCell_other w q b v hq)
theorem below_onto {p : Nat} {w w' w'' : World} (h : Below w.heap.size w w') (ho : Onto p w' w'') (hp : w.heap.size ≤ p) : Below w.heap.size w w'' :=
  ⟨ho.os.trans h.os, ho.tape.trans h.tape, ho.output.trans h.output, Nat.le_trans h.size ho.size, fun k hk => by
    have := h.size
    rw [ho.block k (by omega) (by omega)]; exact h.block k hk⟩
theorem below_more {w w' w'' : World} (h : Below w.heap.size w w') (hb : Below w'.heap.size w' w'') : Below w.heap.size w w'' := h.trans (hb.mono h.size)
theorem box2 {w w1 : World} {A B : Array Value} {T U : TypeId} (hb : Below ((w.alloc (.cells A T)).alloc (.cells B U)).heap.size ((w.alloc (.cells A T)).alloc (.cells B U)) w1) :
    Row w1 w.heap.size A T ∧ Row w1 (w.heap.size + 1) B U ∧ Below w.heap.size w w1 :=
  ⟨((Row.new w A T).alloc _).below hb, (Row.new1 (w := w.alloc _) (n := w.heap.size + 1) (by simp) B U).below hb, (((Below.refl _ w).alloc (Nat.le_refl _) _).alloc (by simp) _).trans (hb.mono (by simp; omega))⟩
def Rows (w : World) (L : List (Nat × Array Value × TypeId)) : Prop := ∀ x ∈ L, Row w x.1 x.2.1 x.2.2
theorem Rows.none (w : World) : Rows w [] := fun _ h => by cases h
theorem Rows.below {w w' : World} {L : List (Nat × Array Value × TypeId)} (h : Rows w L) (hb : Below w.heap.size w w') : Rows w' L := fun x hx => (h x hx).below hb
theorem Rows.drew {w : World} {L : List (Nat × Array Value × TypeId)} (h : Rows w L) : Rows w.drew L := fun x hx => (h x hx).drewN 1
theorem Rows.alloc {w : World} {L : List (Nat × Array Value × TypeId)} (h : Rows w L) (cs : Array Value) (T : TypeId) : Rows (w.alloc (.cells cs T)) ((w.heap.size, cs, T) :: L) := fun x hx => by
  rcases List.mem_cons.1 hx with rfl | hx
  · exact Row.new w cs T
  · exact (h x hx).alloc _
theorem Rows.at {w : World} {L : List (Nat × Array Value × TypeId)} (h : Rows w L) (i : Nat) {x : Nat × Array Value × TypeId} (hx : L[i]? = some x) : Row w x.1 x.2.1 x.2.2 := h x (List.mem_of_getElem? hx)
section
variable {P : Program}
theorem ld_row {ops : Array Oper} {rest : List Oper} {o : Oper} {a : Act} {w : World} {Q : Exit → Act → World → Prop} (hgd : o.guard = none) (ty : TypeId) (x : Operand) (ho : o.op = .load ty x)
    {g : Nat} (hx : a.eval x = .pointer (some ⟨g, 0, none⟩)) {T : TypeId} {cs : Array Value} (hr : Row w g cs T) {d : TypeDesc}
    (hu : P.underlying ty = some d) (hd : (match d with | .struct _ | .array _ _ => true | _ => false) = true) (hi : (P.info? ty).map (·.size) = some cs.size)
    (h : wpList P ops Q rest (a.put o.dst (.agg cs)) w) : wpList P ops Q (o :: rest) a w :=
  wpList_load_row hgd ty x ho g hx T cs (0, 0) d hr.row hu hd hi h
theorem st_row {ops : Array Oper} {rest : List Oper} {o : Oper} {a : Act} {w : World} {Q : Exit → Act → World → Prop} (hgd : o.guard = none) (ty : TypeId) (x y : Operand) (ho : o.op = .store ty x y)
    {g : Nat} {cells : Array Value} (hx : a.eval x = .pointer (some ⟨g, 0, none⟩)) (hy : a.eval y = .agg cells) {T : TypeId} {old : Array Value} (hr : Row w g old T)
    (hi : (P.info? ty).map (·.size) = some cells.size) (hold : old.size = cells.size) (h1 : cells.all (·.oneCell') = true)
    (h : ∀ w', Row w' g cells T → Onto g w w' → w'.heap.size = w.heap.size → wpList P ops Q rest (a.put o.dst undef) w') : wpList P ops Q (o :: rest) a w :=
  wpList_store_row hgd ty x y ho g cells hx hy T old hr.row hi hold h1
    (h _ (Row.of (setRow_heap w g old cells T _ hr.row)) ⟨rfl, rfl, rfl, by simp, fun k hk _ => setRow_other w g k cells hk⟩ (by simp))
theorem ret_row {fn : Func} {R : Ending → World → Prop} {a : Act} {w : World} {p : Tmp} {ty : TypeId} (h : fn.results = #[.cell p ty]) {g : Nat} {T : TypeId} {cs : Array Value} {d : TypeDesc}
    (hp : a.tmps.getD p undef = .pointer (some ⟨g, 0, none⟩)) (hr : Row w g cs T)
    (hu : P.underlying ty = some d) (hd : (match d with | .struct _ | .array _ _ => true | _ => false) = true) (hi : (P.info? ty).map (·.size) = some cs.size)
    (hde : a.defers = []) (hR : R (.returned (.agg cs)) w) : bodyPost P fn R .ret a w :=
  bodyPost_ret (results_cell_row h a.tmps w g T cs (0, 0) d hp hr.row hu hd hi) hde hR
theorem ret_row_tmp {fn : Func} {R : Ending → World → Prop} {a : Act} {w : World} {p u : Tmp} {ty : TypeId} (h : fn.results = #[.cell p ty, .tmp u]) {g : Nat} {T : TypeId} {cs : Array Value} {d : TypeDesc}
    (hp : a.tmps.getD p undef = .pointer (some ⟨g, 0, none⟩)) (hr : Row w g cs T)
    (hu : P.underlying ty = some d) (hd : (match d with | .struct _ | .array _ _ => true | _ => false) = true) (hi : (P.info? ty).map (·.size) = some cs.size)
    (hde : a.defers = []) {v : Value} (hv : a.tmps.getD u undef = v) (hR : R (.returned (.tuple #[.agg cs, v])) w) : bodyPost P fn R .ret a w := by
  subst hv
  refine bodyPost_ret ?_ hde hR
  rw [results_cell_tmp h, hp]
  simp [asAddr, run_loadVar_row w g T ty cs (0, 0) d hr.row hu hd hi]
theorem ret_row_tmp2 {fn : Func} {R : Ending → World → Prop} {a : Act} {w : World} {p u u2 : Tmp} {ty : TypeId} (h : fn.results = #[.cell p ty, .tmp u, .tmp u2]) {g : Nat} {T : TypeId} {cs : Array Value} {d : TypeDesc}
    (hp : a.tmps.getD p undef = .pointer (some ⟨g, 0, none⟩)) (hr : Row w g cs T)
    (hu : P.underlying ty = some d) (hd : (match d with | .struct _ | .array _ _ => true | _ => false) = true) (hi : (P.info? ty).map (·.size) = some cs.size)
    (hde : a.defers = []) {v v2 : Value} (hv : a.tmps.getD u undef = v) (hv2 : a.tmps.getD u2 undef = v2) (hR : R (.returned (.tuple #[.agg cs, v, v2])) w) : bodyPost P fn R .ret a w := by
  subst hv hv2
  refine bodyPost_ret ?_ hde hR
  have hp' : a.tmps[p]?.getD undef = .pointer (some ⟨g, 0, none⟩) := by simpa using hp
  simp [results, h, hp', asAddr, run_loadVar_row w g T ty cs (0, 0) d hr.row hu hd hi]
end
end Go.Proofs.YtghmkacamabndaaGreatDoor.Rw
namespace Go.Proofs.YtghmkacamabndaaGreatDoor.Rw
open Go.RowKit Base

def spl : List Value → Nat → Array Value → Array Value
  | [], _, cs => cs
  | v :: r, k, cs => spl r (k + 1) (cs.setIfInBounds k v)
theorem Row.cells {g : Nat} {T : TypeId} : ∀ (vs : List Value) (k : Nat) (w : World) (cs : Array Value), Row w g cs T → Row (w.setCells g k vs) g (spl vs k cs) T
  | [], _, _, _, h => h
  | v :: r, k, w, cs, h => Row.cells r (k + 1) _ _ (h.set k v)
theorem onto_cells {g : Nat} : ∀ (vs : List Value) (k : Nat) (w0 w : World), Onto g w0 w → Onto g w0 (w.setCells g k vs)
  | [], _, _, _, h => h
  | v :: r, k, w0, w, h => onto_cells r (k + 1) w0 _ (h.setCell rfl v)
theorem size_cells {g : Nat} : ∀ (vs : List Value) (k : Nat) (w : World), (w.setCells g k vs).heap.size = w.heap.size
  | [], _, _ => rfl
  | v :: r, k, w => (size_cells r (k + 1) _).trans (by simp)
theorem Row.there {w : World} {g : Nat} {cs : Array Value} {T : TypeId} (h : Row w g cs T) (k n : Nat) (hk : k + n ≤ cs.size) : w.there g k n := fun j hj => by
  refine ⟨?_, h.free _⟩
  rw [h.cell]
  simp; omega
section
variable {P : Program}
theorem run_store_in (w : World) (g k : Nat) (ty : TypeId) (v : Value) (vs : List Value) (hv : v.cells.toList = vs) (ht : w.there g k vs.length) (hi : (P.info? ty).map (·.size) = some vs.length) (h1 : vs.all (·.oneCell') = true) :
    (storeVar ty ⟨g, k, none⟩ v).run P w = .ok () (w.setCells g k vs) := by
  subst hv
  have := run_storeCells_cells (P := P) g k v.cells.toList 0 w (fun j hj => by simpa using (ht j (by simpa using hj)).1) (fun j hj => by simpa using (ht j (by simpa using hj)).2)
    (fun u hu => (List.all_eq_true.1 h1) u hu)
  cases hq : P.info? ty with
  | none => simp [hq] at hi
  | some i =>
    have hs : v.cells.size = i.size := by simp [hq] at hi; omega
    simp only [Nat.add_zero] at this
    simp [storeVar, sizeOf, typeInfo, hq, hs, this]
theorem st_in {ops : Array Oper} {rest : List Oper} {o : Oper} {a : Act} {w : World} {Q : Exit → Act → World → Prop} (hgd : o.guard = none) {ty : TypeId} {x y : Operand} (ho : o.op = .store ty x y)
    {g k : Nat} {v : Value} {vs : List Value} {cs cs' : Array Value} {T : TypeId} (hx : a.eval x = .pointer (some ⟨g, k, none⟩)) (hy : a.eval y = v) (hr : Row w g cs T) (hv : v.cells.toList = vs)
    (hi : (P.info? ty).map (·.size) = some vs.length) (hk : decide (k + vs.length ≤ cs.size) = true) (h1 : vs.all (·.oneCell') = true) (hcs : spl vs k cs = cs')
    (h : ∀ w', Row w' g cs' T → Onto g w w' → w'.heap.size = w.heap.size → wpList P ops Q rest (a.put o.dst undef) w') : wpList P ops Q (o :: rest) a w :=
  wpList_plain hgd fun _ hK => by
    unfold Oper.wp execOp
    simp only [ho, hx, hy, Instr.storeAt, Instr.sureAddr, Sem.run_bind, Sem.run_pure, Result.andThen_ok, run_store_in w g k ty v vs hv (hr.there k vs.length (of_decide_eq_true hk)) hi h1]
    exact hK _ _ (h _ (hcs ▸ hr.cells vs k) (onto_cells vs k _ _ (Onto.refl _ _)) (size_cells _ _ _))
theorem st_int {ops : Array Oper} {rest : List Oper} {o : Oper} {a : Act} {w : World} {Q : Exit → Act → World → Prop} (hgd : o.guard = none) {ty : TypeId} {x y : Operand} (ho : o.op = .store ty x y)
    {g k : Nat} {z : Int} {kd : IntKind} {cs : Array Value} {T : TypeId} (hx : a.eval x = .pointer (some ⟨g, k, none⟩)) (hy : a.eval y = .int kd z) (hr : Row w g cs T)
    (hi : (P.info? ty).map (·.size) = some 1) (hk : decide (k < cs.size) = true)
    (h : ∀ w', Row w' g (cs.setIfInBounds k (.int kd z)) T → Onto g w w' → w'.heap.size = w.heap.size → wpList P ops Q rest (a.put o.dst undef) w') : wpList P ops Q (o :: rest) a w :=
  st_in (vs := [.int kd z]) hgd ho hx hy hr rfl hi hk rfl rfl h
theorem st_flag {ops : Array Oper} {rest : List Oper} {o : Oper} {a : Act} {w : World} {Q : Exit → Act → World → Prop} (hgd : o.guard = none) {ty : TypeId} {x y : Operand} (ho : o.op = .store ty x y)
    {g k : Nat} {z : Bool} {cs : Array Value} {T : TypeId} (hx : a.eval x = .pointer (some ⟨g, k, none⟩)) (hy : a.eval y = .bool z) (hr : Row w g cs T)
    (hi : (P.info? ty).map (·.size) = some 1) (hk : decide (k < cs.size) = true)
    (h : ∀ w', Row w' g (cs.setIfInBounds k (.bool z)) T → Onto g w w' → w'.heap.size = w.heap.size → wpList P ops Q rest (a.put o.dst undef) w') : wpList P ops Q (o :: rest) a w :=
  st_in (vs := [.bool z]) hgd ho hx hy hr rfl hi hk rfl rfl h
theorem st_two {ops : Array Oper} {rest : List Oper} {o : Oper} {a : Act} {w : World} {Q : Exit → Act → World → Prop} (hgd : o.guard = none) {ty : TypeId} {x y : Operand} (ho : o.op = .store ty x y)
    {g k : Nat} {z z2 : Int} {kd kd2 : IntKind} {cs : Array Value} {T : TypeId} (hx : a.eval x = .pointer (some ⟨g, k, none⟩)) (hy : a.eval y = .agg #[.int kd z, .int kd2 z2]) (hr : Row w g cs T)
    (hi : (P.info? ty).map (·.size) = some 2) (hk : decide (k + 1 < cs.size) = true)
    (h : ∀ w', Row w' g ((cs.setIfInBounds k (.int kd z)).setIfInBounds (k + 1) (.int kd2 z2)) T → Onto g w w' → w'.heap.size = w.heap.size → wpList P ops Q rest (a.put o.dst undef) w') : wpList P ops Q (o :: rest) a w :=
  st_in (vs := [.int kd z, .int kd2 z2]) hgd ho hx hy hr rfl hi hk rfl rfl h
theorem ld_in {ops : Array Oper} {rest : List Oper} {o : Oper} {a : Act} {w : World} {Q : Exit → Act → World → Prop} (hgd : o.guard = none) {ty : TypeId} {x : Operand} (ho : o.op = .load ty x)
    {g k : Nat} {cs cs' : Array Value} {T : TypeId} {d : TypeDesc} (hx : a.eval x = .pointer (some ⟨g, k, none⟩)) (hr : Row w g cs T) (hu : P.underlying ty = some d) (hd : d.isRow = true)
    (hcs : cs.extract k (k + cs'.size) = cs') (hi : (P.info? ty).map (·.size) = some cs'.size)
    (h : wpList P ops Q rest (a.put o.dst (.agg cs')) w) : wpList P ops Q (o :: rest) a w := by
  have hrange : w.rangeAt g k cs'.toList := by
    have := World.rangeAt_of_block hr.row k cs'.size
    rwa [hcs] at this
  refine wpList_load_mid hgd ty x ho g k hx cs'.toList d hrange hu hd (by simpa using hi) ?_
  simpa using h
theorem lw_in {o : Oper} {a : Act} {w : World} {K : Act → World → Prop} {Q : Exit → Act → World → Prop} {ty : TypeId} {x : Operand} (ho : o.op = .load ty x)
    {g k : Nat} {cs cs' : Array Value} {T : TypeId} {d : TypeDesc} (hx : a.eval x = .pointer (some ⟨g, k, none⟩)) (hr : Row w g cs T) (hu : P.underlying ty = some d) (hd : d.isRow = true)
    (hcs : cs.extract k (k + cs'.size) = cs') (hi : (P.info? ty).map (·.size) = some cs'.size)
    (h : K (a.put o.dst (.agg cs')) w) : o.wp P a w K Q := by
  have hrange : w.rangeAt g k cs'.toList := by
    have := World.rangeAt_of_block hr.row k cs'.size
    rwa [hcs] at this
  refine wp_load_mid ty x ho g k hx cs'.toList d hrange hu hd (by simpa using hi) ?_
  simpa using h
end
end Go.Proofs.YtghmkacamabndaaGreatDoor.Rw
namespace Go.Proofs.YtghmkacamabndaaGreatDoor.Tmr
open Go.ChangeShapes Go.WideShapes Go.RowKit Base Num

def inn (n lo hi : Int) : Bool := decide (lo ≤ n) && decide (n ≤ hi)
theorem inn_true {n lo hi : Int} (h : inn n lo hi = true) : lo ≤ n ∧ n ≤ hi := by simpa [inn] using h
theorem inn_false {n lo hi : Int} (h : inn n lo hi = false) : n < lo ∨ hi < n := by
  simp only [inn, Bool.and_eq_false_iff, decide_eq_false_iff_not] at h; omega
theorem in_any (n lo hi : Int) (w : World) :
    Calls Tryz.prog 123 #[.int .i64 n, .int .i64 lo, .int .i64 hi] w fun e w' => e = .returned (.bool (inn n lo hi)) ∧ w' = w := by
  by_cases h0 : lo ≤ n
  · go_enter Tryz.func123, Tryz.ntmps123
    go_wp2
    go_ret
    exact ⟨ret_bool (by simp [inn, h0]), rfl⟩
  · go_enter Tryz.func123, Tryz.ntmps123
    go_wp2
    go_ret
    exact ⟨ret_bool (by simp [inn]; omega), rfl⟩

structure Tm where
  c : Int
  v : Int
  s : Int
  m : Int
def Tm.val (t : Tm) : Value := .agg #[.int .i64 t.c, .int .i64 t.v, .int .i64 t.s, .int .i64 t.m]
def Tm.nul : Tm := ⟨0, 0, 0, 0⟩
def clk (n : Int) : Bool := inn n 0 1000000000
def mok (n : Int) : Bool := inn n 0 7
def Tm.ok (t : Tm) : Bool := clk t.c && bok t.v && bok t.s && mok t.m
def rate (m : Int) : Int := if m = 4 then 16 else if m = 5 then 32 else if m = 6 then 64 else if m = 7 then 128 else 0
def tick (s : Int) (x : Int × Int) : Int × Int := if x.1 + 1 = 256 then (s, x.2 + 1) else (x.1 + 1, x.2)
def ticks (s : Int) : Nat → Int × Int → Int × Int
  | 0, x => x
  | k + 1, x => ticks s k (tick s x)
def mults (c n r : Int) : Int := if r = 0 then 0 else (c + n) / r - c / r
def Tm.may (t : Tm) (n : Int) : Bool := t.ok && inn n 0 100000 && decide (t.c + n ≤ 1000000000)
def Tm.after (t : Tm) (n : Int) : Tm × Int :=
  if t.may n then (⟨t.c + n, (ticks t.s (mults t.c n (rate t.m)).toNat (t.v, 0)).1, t.s, t.m⟩, (ticks t.s (mults t.c n (rate t.m)).toNat (t.v, 0)).2) else (Tm.nul, 0)

theorem ticks_in (s : Int) (hs : 0 ≤ s ∧ s ≤ 255) : ∀ (k : Nat) (v r : Int), 0 ≤ v ∧ v ≤ 255 → 0 ≤ (ticks s k (v, r)).1 ∧ (ticks s k (v, r)).1 ≤ 255
  | 0, v, r, h => h
  | k + 1, v, r, h => by
    simp only [ticks, tick]
    split
    · exact ticks_in s hs k _ _ hs
    · exact ticks_in s hs k _ _ (by omega)
theorem ticks_eq (s : Int) (hs : 0 ≤ s ∧ s ≤ 255) : ∀ (k : Nat) (v r : Int), 0 ≤ v ∧ v ≤ 255 →
    ticks s k (v, r) = if v + k - 256 < 0 then (v + k, r) else (s + (v + k - 256) % (256 - s), r + 1 + (v + k - 256) / (256 - s))
  | 0, v, r, h => by
    rw [if_pos (by omega)]
    simp [ticks]
  | k + 1, v, r, h => by
    simp only [ticks, tick]
    split
    · rename_i hv
      rw [ticks_eq s hs k s (r + 1) hs]
      split
      · rw [if_neg (by omega)]
        have e : v + ((k + 1 : Nat) : Int) - 256 = k := by omega
        rw [e, Int.emod_eq_of_lt (by omega) (by omega), Int.ediv_eq_zero_of_lt (by omega) (by omega)]
        simp
      · rw [if_neg (by omega)]
        have e : v + ((k + 1 : Nat) : Int) - 256 = (s + k - 256) + (256 - s) := by omega
        rw [e, Int.add_emod_right, Int.add_ediv_of_dvd_right (Int.dvd_refl _), Int.ediv_self (by omega)]
        simp only [Prod.mk.injEq, true_and]; omega
    · rw [ticks_eq s hs k (v + 1) r (by omega)]
      have e : v + 1 + (k : Int) = v + ((k + 1 : Nat) : Int) := by omega
      rw [e]
theorem rate_some (m : Int) : rate m = 0 ∨ rate m = 16 ∨ rate m = 32 ∨ rate m = 64 ∨ rate m = 128 := by
  unfold rate; split
  · omega
  · split
    · omega
    · split
      · omega
      · split <;> omega

theorem clk_true {n : Int} (h : clk n = true) : 0 ≤ n ∧ n ≤ 1000000000 := inn_true h
theorem mok_true {n : Int} (h : mok n = true) : 0 ≤ n ∧ n ≤ 7 := inn_true h
theorem Tm.ok_true {t : Tm} (h : t.ok = true) : (0 ≤ t.c ∧ t.c ≤ 1000000000) ∧ (0 ≤ t.v ∧ t.v ≤ 255) ∧ (0 ≤ t.s ∧ t.s ≤ 255) ∧ (0 ≤ t.m ∧ t.m ≤ 7) := by
  simp only [Tm.ok, Bool.and_eq_true] at h
  exact ⟨clk_true h.1.1.1, bok_true h.1.1.2, bok_true h.1.2, mok_true h.2⟩
theorem Tm.ok_mk {t : Tm} (hc : 0 ≤ t.c ∧ t.c ≤ 1000000000) (hv : 0 ≤ t.v ∧ t.v ≤ 255) (hs : 0 ≤ t.s ∧ t.s ≤ 255) (hm : 0 ≤ t.m ∧ t.m ≤ 7) : t.ok = true := by
  simp [Tm.ok, clk, mok, inn, bok, hc, hv, hs, hm]
theorem clockOk_impl (n : Int) (w : World) :
    Calls Tryz.prog 140 #[.int .i64 n] w fun e w' => e = .returned (.bool (clk n)) ∧ w' = w := by
  by_cases h0 : 0 ≤ n
  · go_enter Tryz.func140, Tryz.ntmps140
    go_wp2
    go_ret
    exact ⟨ret_bool (by simp [clk, inn, h0]), rfl⟩
  · go_enter Tryz.func140, Tryz.ntmps140
    go_wp2
    go_ret
    exact ⟨ret_bool (by simp [clk, inn]; omega), rfl⟩
set_option maxHeartbeats 2000000 in
theorem timerOk_impl (t : Tm) (w : World) :
    Calls Tryz.prog 77 #[t.val] w fun e w' => e = .returned (.bool t.ok) ∧ Below w.heap.size w w' := by
  obtain ⟨c, v, s, m⟩ := t
  have hok : (Tm.mk c v s m).ok = (clk c && bok v && bok s && mok m) := rfl
  rw [hok]
  show Calls Tryz.prog 77 #[.agg #[.int .i64 c, .int .i64 v, .int .i64 s, .int .i64 m]] w _
  go_enter Tryz.func77, Tryz.ntmps77
  go_wp2_with (first
    | (go_at_call 140; refine (clockOk_impl _ _).mono ?_; rintro e w1 ⟨rfl, rfl⟩; generalize hc : clk _ = r; cases r)
    | (go_at_call 75; refine (byteOk_impl _ _).mono ?_; rintro e w1 ⟨rfl, rfl⟩; generalize hc : bok _ = r; cases r))
  all_goals go_ret
  all_goals exact ⟨ret_bool (by simp [mok, inn, *] <;> omega), (Below.refl _ _).alloc (Nat.le_refl _) _⟩
set_option maxHeartbeats 2000000 in
theorem timerOk_spec (t : Tm) (w : World) :
    Calls Tryz.prog 124 #[t.val] w fun e w' => e = .returned (.bool t.ok) ∧ Below w.heap.size w w' := by
  obtain ⟨c, v, s, m⟩ := t
  have hok : (Tm.mk c v s m).ok = (inn c 0 1000000000 && bok v && bok s && inn m 0 7) := rfl
  rw [hok]
  show Calls Tryz.prog 124 #[.agg #[.int .i64 c, .int .i64 v, .int .i64 s, .int .i64 m]] w _
  go_enter Tryz.func124, Tryz.ntmps124
  go_wp2_with (first
    | (go_at_call 123; refine (in_any _ _ _ _).mono ?_; rintro e w1 ⟨rfl, rfl⟩; generalize hc : inn _ _ _ = r; cases r)
    | (go_at_call 122; refine (byteOk_spec _ _).mono ?_; rintro e w1 ⟨rfl, rfl⟩; generalize hc : bok _ = r; cases r))
  all_goals go_ret
  all_goals exact ⟨ret_bool (by simp [*]), (Below.refl _ _).alloc (Nat.le_refl _) _⟩
end Go.Proofs.YtghmkacamabndaaGreatDoor.Tmr
namespace Go.Proofs.YtghmkacamabndaaGreatDoor.Tmr
open Go.ChangeShapes Go.WideShapes Go.RowKit Base Num Slc

theorem rateOf_impl (m : Int) (w : World) :
    Calls Tryz.prog 168 #[.int .i64 m] w fun e w' => e = .returned (.int .i64 (rate m)) ∧ w' = w := by
  by_cases h4 : m = 4
  · subst h4
    go_enter Tryz.func168, Tryz.ntmps168
    go_wp2
    go_ret
    exact ⟨rfl, rfl⟩
  by_cases h5 : m = 5
  · subst h5
    go_enter Tryz.func168, Tryz.ntmps168
    go_wp2
    go_ret
    exact ⟨rfl, rfl⟩
  by_cases h6 : m = 6
  · subst h6
    go_enter Tryz.func168, Tryz.ntmps168
    go_wp2
    go_ret
    exact ⟨rfl, rfl⟩
  by_cases h7 : m = 7
  · subst h7
    go_enter Tryz.func168, Tryz.ntmps168
    go_wp2
    go_ret
    exact ⟨rfl, rfl⟩
  have e : rate m = 0 := by simp [rate, h4, h5, h6, h7]
  rw [e]
  go_enter Tryz.func168, Tryz.ntmps168
  go_wp2
  go_ret
  exact ⟨rfl, rfl⟩
theorem rateOf_spec (m : Int) (w : World) :
    Calls Tryz.prog 179 #[.int .i64 m] w fun e w' => e = .returned (.int .i64 (rate m)) ∧ w' = w := by
  cases h : inn m 4 7
  · have h0 := inn_false h
    have e : rate m = 0 := by unfold rate; split; omega; split; omega; split; omega; split <;> omega
    rw [e]
    go_enter Tryz.func179, Tryz.ntmps179
    go_wp2_with (go_at_call 123; refine (in_any _ _ _ _).mono ?_; rintro e w1 ⟨rfl, rfl⟩; rw [h])
    go_ret
    exact ⟨rfl, rfl⟩
  · have h0 := inn_true h
    obtain rfl | rfl | rfl | rfl : m = 4 ∨ m = 5 ∨ m = 6 ∨ m = 7 := by omega
    all_goals
      go_enter Tryz.func179, Tryz.ntmps179
      go_wp2_with (go_at_call 123; refine (in_any _ _ _ _).mono ?_; rintro e w1 ⟨rfl, rfl⟩; rw [h])
      go_ret
      exact ⟨rfl, rfl⟩
theorem quo_pos {a r : Int} (ha : 0 ≤ a) : a.tdiv r = a / r := Int.tdiv_eq_ediv_of_nonneg ha
theorem rem_pos {a r : Int} (ha : 0 ≤ a) : a.tmod r = a % r := Int.tmod_eq_emod_of_nonneg ha
theorem mults_in (c n r : Int) (hc : 0 ≤ c) (hn : 0 ≤ n) (hr : r = 0 ∨ 0 < r) : 0 ≤ mults c n r ∧ mults c n r ≤ n := by
  unfold mults
  split
  · omega
  · rename_i h
    have hr : 0 < r := by omega
    have h1 : c / r ≤ (c + n) / r := Int.ediv_le_ediv hr (by omega)
    have h2 : (c + n) / r ≤ c / r + n := by
      have h3 : (c + n) / r ≤ (c + n * r) / r := Int.ediv_le_ediv hr (by
        have : n * 1 ≤ n * r := Int.mul_le_mul_of_nonneg_left (by omega) hn
        omega)
      rwa [Int.add_mul_ediv_right _ _ (by omega)] at h3
    omega
theorem multiplesIn_impl (c n r : Int) (w : World) (hc : 0 ≤ c) (hn : 0 ≤ n) (hcn : c + n ≤ 1000000000) (hr : r = 0 ∨ 0 < r) :
    Calls Tryz.prog 167 #[.int .i64 c, .int .i64 n, .int .i64 r] w fun e w' => e = .returned (.int .i64 (mults c n r)) ∧ ∃ k, w' = w.drewN k := by
  by_cases h0 : r = 0
  · have e : mults c n r = 0 := by simp [mults, h0]
    rw [e]
    go_enter Tryz.func167, Tryz.ntmps167
    go_wp2
    go_ret
    exact ⟨rfl, 0, rfl⟩
  · have e : mults c n r = (c + n) / r - c / r := by simp [mults, h0]
    have hin := mults_in c n r hc hn hr
    rw [e] at hin ⊢
    have q1 := quo_pos (a := c + n) (r := r) (by omega)
    have q2 := quo_pos (a := c) (r := r) (by omega)
    have d1 : 0 ≤ (c + n) / r := Int.ediv_nonneg (by omega) (by omega)
    have d2 : (c + n) / r ≤ c + n := Int.ediv_le_self _ (by omega)
    have d3 : 0 ≤ c / r := Int.ediv_nonneg (by omega) (by omega)
    have d4 : c / r ≤ c := Int.ediv_le_self _ (by omega)
    go_enter Tryz.func167, Tryz.ntmps167
    go_wp2
    go_quiet (fail)
    go_wp2
    go_ret
    exact ⟨rfl, _, rfl⟩
theorem raised_impl (v s : Int) (k : Nat) (w : World) (hv : 0 ≤ v ∧ v ≤ 255) (hs : 0 ≤ s ∧ s ≤ 255) (hk : (k : Int) ≤ 100000) :
    Calls Tryz.prog 169 #[.int .i64 v, .int .i64 s, .int .i64 (k : Int)] w fun e w' => e = .returned (.tuple #[.int .i64 (ticks s k (v, 0)).1, .int .i64 (ticks s k (v, 0)).2]) ∧ ∃ k, w' = w.drewN k := by
  rw [ticks_eq s hs k v 0 hv]
  by_cases h0 : v + k - 256 < 0
  · rw [if_pos h0]
    go_enter Tryz.func169, Tryz.ntmps169
    go_wp2
    go_ret2
    exact ⟨rfl, 0, rfl⟩
  · rw [if_neg h0]
    have q1 := quo_pos (a := v + k - 256) (r := 256 - s) (by omega)
    have q2 := rem_pos (a := v + k - 256) (r := 256 - s) (by omega)
    have d1 : 0 ≤ (v + k - 256) / (256 - s) := Int.ediv_nonneg (by omega) (by omega)
    have d2 : (v + k - 256) / (256 - s) ≤ v + k - 256 := Int.ediv_le_self _ (by omega)
    have d3 : 0 ≤ (v + k - 256) % (256 - s) := Int.emod_nonneg _ (by omega)
    have d4 : (v + k - 256) % (256 - s) < 256 - s := Int.emod_lt_of_pos _ (by omega)
    have hne : ¬ (256 - s = 0) := by omega
    go_enter Tryz.func169, Tryz.ntmps169
    go_wp2
    go_quiet (fail)
    go_wp2
    go_ret2
    exact ⟨by simp, _, rfl⟩
end Go.Proofs.YtghmkacamabndaaGreatDoor.Tmr
namespace Go.Proofs.YtghmkacamabndaaGreatDoor.Tmr
open Go.ChangeShapes Go.WideShapes Go.RowKit Base Num Slc Rw

theorem und_tm : Tryz.prog.underlying 26 = some (.struct #[{ name := "Count", type := 2, offset := 0, embedded := false, tag := "", pkgPath := "", byteOffset := 0 }, { name := "Value", type := 2, offset := 1, embedded := false, tag := "", pkgPath := "", byteOffset := 8 }, { name := "Start", type := 2, offset := 2, embedded := false, tag := "", pkgPath := "", byteOffset := 16 }, { name := "Mode", type := 2, offset := 3, embedded := false, tag := "", pkgPath := "", byteOffset := 24 }]) := by kernel_rfl
theorem info_tm : (Tryz.prog.info? 26).map (·.size) = some 4 := by kernel_rfl

section
variable {ops : Array Oper} {rest : List Oper} {o : Oper} {a : Act} {w : World} {Q : Exit → Act → World → Prop} {x y : Operand} {g : Nat} {c v s m : Int} {T : TypeId} {old : Array Value}
theorem st_tm (hgd : o.guard = none) (ho : o.op = .store 26 x y) (hx : a.eval x = .pointer (some ⟨g, 0, none⟩)) (hy : a.eval y = .agg #[.int .i64 c, .int .i64 v, .int .i64 s, .int .i64 m]) (hr : Row w g old T) (hold : old.size = 4)
    (h : ∀ w', Row w' g #[.int .i64 c, .int .i64 v, .int .i64 s, .int .i64 m] T → Onto g w w' → w'.heap.size = w.heap.size → wpList Tryz.prog ops Q rest (a.put o.dst undef) w') : wpList Tryz.prog ops Q (o :: rest) a w :=
  st_row hgd _ x y ho hx hy hr info_tm hold (by simp [Value.oneCell']) h
end
theorem Tm.after_no {t : Tm} {n : Int} (h : t.may n = false) : t.after n = (Tm.nul, 0) := by simp [Tm.after, h]
theorem Tm.may_false {t : Tm} {n : Int} (h : t.may n = false) (h1 : t.ok = true) (h2 : inn n 0 100000 = true) : 1000000000 < t.c + n := by
  simp only [Tm.may, h1, h2, Bool.true_and, decide_eq_false_iff_not] at h; omega

set_option maxHeartbeats 1000000 in
theorem timerAfter_no (t : Tm) (n : Int) (w : World) (hm : t.may n = false) :
    Calls Tryz.prog 120 #[t.val, .int .i64 n] w fun e w' => e = .returned (.tuple #[Tm.nul.val, .int .i64 0]) ∧ Below w.heap.size w w' := by
  have hA := fun h1 h2 => Tm.may_false hm h1 h2
  obtain ⟨c, v, s, m⟩ := t
  show Calls Tryz.prog 120 #[.agg #[.int .i64 c, .int .i64 v, .int .i64 s, .int .i64 m], .int .i64 n] w _
  cases hok : (Tm.mk c v s m).ok
  · go_enter Tryz.func120, Tryz.ntmps120
    go_wp2_with (first
      | (go_at_call 77; refine (timerOk_impl ⟨c, v, s, m⟩ _).mono ?_; rintro e w1 ⟨rfl, hb⟩; rw [hok]; obtain ⟨r1, r2, hB⟩ := box2 hb)
      | (refine st_tm rfl rfl rfl rfl r2 rfl ?_; intro w2 r3 ho2 hs2))
    refine ret_row_tmp rfl rfl r3 und_tm rfl info_tm rfl rfl ?_
    exact ⟨rfl, below_onto hB ho2 (by omega)⟩
  · obtain ⟨hc, hv, hs, hmm⟩ := Tm.ok_true hok
    simp only at hc hv hs hmm
    cases hi : inn n 0 100000
    · have hi' := inn_false hi
      by_cases h0 : n < 0
      · go_enter Tryz.func120, Tryz.ntmps120
        go_wp2_with (first
          | (go_at_call 77; refine (timerOk_impl ⟨c, v, s, m⟩ _).mono ?_; rintro e w1 ⟨rfl, hb⟩; rw [hok]; obtain ⟨r1, r2, hB⟩ := box2 hb)
          | (refine st_tm rfl rfl rfl rfl r2 rfl ?_; intro w2 r3 ho2 hs2))
        refine ret_row_tmp rfl rfl r3 und_tm rfl info_tm rfl rfl ?_
        exact ⟨rfl, below_onto hB ho2 (by omega)⟩
      · have h1 : 100000 < n := by omega
        go_enter Tryz.func120, Tryz.ntmps120
        go_wp2_with (first
          | (go_at_call 77; refine (timerOk_impl ⟨c, v, s, m⟩ _).mono ?_; rintro e w1 ⟨rfl, hb⟩; rw [hok]; obtain ⟨r1, r2, hB⟩ := box2 hb)
          | (refine st_tm rfl rfl rfl rfl r2 rfl ?_; intro w2 r3 ho2 hs2))
        refine ret_row_tmp rfl rfl r3 und_tm rfl info_tm rfl rfl ?_
        exact ⟨rfl, below_onto hB ho2 (by omega)⟩
    · have hi' := inn_true hi
      have h2 := hA hok hi
      simp only at h2
      have hk : clk (c + n) = false := by simp [clk, inn]; omega
      clear hm hA hi
      go_enter Tryz.func120, Tryz.ntmps120
      go_wp2_with (first
        | (go_at_call 77; refine (timerOk_impl ⟨c, v, s, m⟩ _).mono ?_; rintro e w1 ⟨rfl, hb⟩; rw [hok]; obtain ⟨r1, r2, hB⟩ := box2 hb; have c1 := r1.cell)
        | (go_at_call 140; refine (clockOk_impl _ _).mono ?_; rintro e w1 ⟨rfl, rfl⟩; rw [hk])
        | (refine st_tm rfl rfl rfl rfl r2 rfl ?_; intro w2 r3 ho2 hs2))
      refine ret_row_tmp rfl rfl r3 und_tm rfl info_tm rfl rfl ?_
      exact ⟨rfl, below_onto hB ho2 (by omega)⟩
theorem Tm.may_true {t : Tm} {n : Int} (h : t.may n = true) : t.ok = true ∧ (0 ≤ n ∧ n ≤ 100000) ∧ t.c + n ≤ 1000000000 := by
  simp only [Tm.may, Bool.and_eq_true, decide_eq_true_eq] at h
  exact ⟨h.1.1, inn_true h.1.2, h.2⟩
theorem rate_sign (m : Int) : rate m = 0 ∨ 0 < rate m := by rcases rate_some m with h | h | h | h | h <;> omega
set_option maxHeartbeats 1000000 in
theorem timerAfter_yes (t : Tm) (n : Int) (w : World) (hm : t.may n = true) :
    Calls Tryz.prog 120 #[t.val, .int .i64 n] w fun e w' => e = .returned (.tuple #[.agg #[.int .i64 (t.c + n), .int .i64 (ticks t.s (mults t.c n (rate t.m)).toNat (t.v, 0)).1, .int .i64 t.s, .int .i64 t.m], .int .i64 (ticks t.s (mults t.c n (rate t.m)).toNat (t.v, 0)).2]) ∧ Below w.heap.size w w' := by
  obtain ⟨hok, hn, hcn⟩ := Tm.may_true hm
  obtain ⟨c, v, s, m⟩ := t
  obtain ⟨hc, hv, hs, hmm⟩ := Tm.ok_true hok
  simp only at hc hv hs hmm hcn ⊢
  have hk : clk (c + n) = true := by simp [clk, inn]; omega
  have hM := mults_in c n (rate m) hc.1 hn.1 (rate_sign m)
  obtain ⟨k, hk'⟩ : ∃ k : Nat, mults c n (rate m) = (k : Int) := ⟨(mults c n (rate m)).toNat, by omega⟩
  have hk2 : (k : Int) ≤ 100000 := by omega
  have hkt : ((k : Int)).toNat = k := by omega
  rw [hk', hkt]
  have hR := fun w' => raised_impl v s k w' hv hs hk2
  generalize ticks s k (v, 0) = tk at hR ⊢
  show Calls Tryz.prog 120 #[.agg #[.int .i64 c, .int .i64 v, .int .i64 s, .int .i64 m], .int .i64 n] w _
  go_enter Tryz.func120, Tryz.ntmps120
  go_wp2_with (first
    | (go_at_call 77; refine (timerOk_impl ⟨c, v, s, m⟩ _).mono ?_; rintro e w1 ⟨rfl, hb⟩; rw [hok]; obtain ⟨r1, r2, hB⟩ := box2 hb; have c1 := r1.cell)
    | (go_at_call 140; refine (clockOk_impl _ _).mono ?_; rintro e w1 ⟨rfl, rfl⟩; rw [hk]))
  go_quiet ((first | (go_at_call 168; refine Calls.quiet_of_same (rateOf_impl _ _)) | (go_at_call 167; refine Calls.quiet_of (multiplesIn_impl _ _ _ _ hc.1 hn.1 hcn (rate_sign m)))))
  rw [hk']
  have R1 := r1.drewN nq
  have R2 := r2.drewN nq
  have hB' := below_drewN hB nq
  have f1 := R1.free
  clear r1 r2 hB hb
  go_wp2_with fail
  go_at_call 169
  refine (hR _).mono ?_
  rintro e w2 ⟨rfl, j, rfl⟩
  have q1 := (R1.set 0 (.int .i64 (c + n))).drewN j
  have q2 := (R2.setOther ⟨w.heap.size, 0, none⟩ (.int .i64 (c + n)) (by simp)).drewN j
  have hB2 := below_drewN (hB'.setCell (p := ⟨w.heap.size, 0, none⟩) (Nat.le_refl _) (.int .i64 (c + n))) j
  generalize ((w1.drewN nq).setCell ⟨w.heap.size, 0, none⟩ (.int .i64 (c + n))).drewN j = w3 at *
  simp only [List.setIfInBounds_toArray, List.set_cons_zero] at q1
  clear R1 R2 f1 c1 hB'
  have f1 := q1.free
  have c1 := q1.cell
  clear hR
  go_wp2_with (refine st_tm rfl rfl rfl rfl (q2.setOther ⟨w.heap.size, 1, none⟩ (.int .i64 tk.1) (by simp)) rfl ?_; intro w4 r4 ho4 hs4)
  refine ret_row_tmp rfl rfl r4 und_tm rfl info_tm rfl rfl ?_
  exact ⟨rfl, below_onto (hB2.setCell (p := ⟨w.heap.size, 1, none⟩) (Nat.le_refl _) (.int .i64 tk.1)) ho4 (by omega)⟩
theorem timerAfter_impl (t : Tm) (n : Int) (w : World) :
    Calls Tryz.prog 120 #[t.val, .int .i64 n] w fun e w' => e = .returned (.tuple #[(t.after n).1.val, .int .i64 (t.after n).2]) ∧ Below w.heap.size w w' := by
  cases hm : t.may n
  · rw [Tm.after_no hm]
    exact timerAfter_no t n w hm
  · have e : t.after n = (⟨t.c + n, (ticks t.s (mults t.c n (rate t.m)).toNat (t.v, 0)).1, t.s, t.m⟩, (ticks t.s (mults t.c n (rate t.m)).toNat (t.v, 0)).2) := by simp [Tm.after, hm]
    rw [e]
    exact timerAfter_yes t n w hm
end Go.Proofs.YtghmkacamabndaaGreatDoor.Tmr
namespace Go.Proofs.YtghmkacamabndaaGreatDoor.Tmr
open Go.ChangeShapes Go.WideShapes Go.RowKit Base Num Slc Rw

set_option maxHeartbeats 1000000 in
theorem timerAfterS_no (t : Tm) (n : Int) (w : World) (hm : t.may n = false) :
    Calls Tryz.prog 129 #[t.val, .int .i64 n] w fun e w' => e = .returned (.tuple #[Tm.nul.val, .int .i64 0]) ∧ Below w.heap.size w w' := by
  have hA := fun h1 h2 => Tm.may_false hm h1 h2
  obtain ⟨c, v, s, m⟩ := t
  show Calls Tryz.prog 129 #[.agg #[.int .i64 c, .int .i64 v, .int .i64 s, .int .i64 m], .int .i64 n] w _
  cases hok : (Tm.mk c v s m).ok
  · go_enter Tryz.func129, Tryz.ntmps129
    go_wp2_with (first
      | (go_at_call 124; refine (timerOk_spec ⟨c, v, s, m⟩ _).mono ?_; rintro e w1 ⟨rfl, hb⟩; rw [hok]; obtain ⟨r1, r2, hB⟩ := box2 hb)
      | (refine st_tm rfl rfl rfl rfl r2 rfl ?_; intro w2 r3 ho2 hs2))
    refine ret_row_tmp rfl rfl r3 und_tm rfl info_tm rfl rfl ?_
    exact ⟨rfl, below_onto hB ho2 (by omega)⟩
  · obtain ⟨hc, hv, hs, hmm⟩ := Tm.ok_true hok
    simp only at hc hv hs hmm
    cases hi : inn n 0 100000
    · go_enter Tryz.func129, Tryz.ntmps129
      go_wp2_with (first
        | (go_at_call 124; refine (timerOk_spec ⟨c, v, s, m⟩ _).mono ?_; rintro e w1 ⟨rfl, hb⟩; rw [hok]; obtain ⟨r1, r2, hB⟩ := box2 hb)
        | (go_at_call 123; refine (in_any _ _ _ _).mono ?_; rintro e w1 ⟨rfl, rfl⟩; rw [hi])
        | (refine st_tm rfl rfl rfl rfl r2 rfl ?_; intro w2 r3 ho2 hs2))
      refine ret_row_tmp rfl rfl r3 und_tm rfl info_tm rfl rfl ?_
      exact ⟨rfl, below_onto hB ho2 (by omega)⟩
    · have hi' := inn_true hi
      have h2 := hA hok hi
      simp only at h2
      clear hm hA
      go_enter Tryz.func129, Tryz.ntmps129
      go_wp2_with (first
        | (go_at_call 124; refine (timerOk_spec ⟨c, v, s, m⟩ _).mono ?_; rintro e w1 ⟨rfl, hb⟩; rw [hok]; obtain ⟨r1, r2, hB⟩ := box2 hb; have c1 := r1.cell)
        | (go_at_call 123; refine (in_any _ _ _ _).mono ?_; rintro e w1 ⟨rfl, rfl⟩; rw [hi])
        | (refine st_tm rfl rfl rfl rfl r2 rfl ?_; intro w2 r3 ho2 hs2))
      refine ret_row_tmp rfl rfl r3 und_tm rfl info_tm rfl rfl ?_
      exact ⟨rfl, below_onto hB ho2 (by omega)⟩
set_option maxHeartbeats 1000000 in
theorem timerAfterS_yes (t : Tm) (n : Int) (w : World) (hm : t.may n = true) :
    Calls Tryz.prog 129 #[t.val, .int .i64 n] w fun e w' => e = .returned (.tuple #[.agg #[.int .i64 (t.c + n), .int .i64 (ticks t.s (mults t.c n (rate t.m)).toNat (t.v, 0)).1, .int .i64 t.s, .int .i64 t.m], .int .i64 (ticks t.s (mults t.c n (rate t.m)).toNat (t.v, 0)).2]) ∧ Below w.heap.size w w' := by
  obtain ⟨hok, hn, hcn⟩ := Tm.may_true hm
  obtain ⟨c, v, s, m⟩ := t
  obtain ⟨hc, hv, hs, hmm⟩ := Tm.ok_true hok
  simp only at hc hv hs hmm hcn ⊢
  have hi : inn n 0 100000 = true := by simp [inn]; omega
  have hM := mults_in c n (rate m) hc.1 hn.1 (rate_sign m)
  obtain ⟨k, hk'⟩ : ∃ k : Nat, mults c n (rate m) = (k : Int) := ⟨(mults c n (rate m)).toNat, by omega⟩
  have hk2 : (k : Int) ≤ 100000 := by omega
  have hkt : ((k : Int)).toNat = k := by omega
  rw [hk', hkt]
  show Calls Tryz.prog 129 #[.agg #[.int .i64 c, .int .i64 v, .int .i64 s, .int .i64 m], .int .i64 n] w _
  rcases rate_sign m with hr | hr
  · have hk0 : k = 0 := by rw [hr] at hk'; simp [mults] at hk'; omega
    subst hk0
    show Calls Tryz.prog 129 #[.agg #[.int .i64 c, .int .i64 v, .int .i64 s, .int .i64 m], .int .i64 n] w fun e w' => e = .returned (.tuple #[.agg #[.int .i64 (c + n), .int .i64 v, .int .i64 s, .int .i64 m], .int .i64 0]) ∧ Below w.heap.size w w'
    go_enter Tryz.func129, Tryz.ntmps129
    go_wp2_with (first
        | (go_at_call 124; refine (timerOk_spec ⟨c, v, s, m⟩ _).mono ?_; rintro e w1 ⟨rfl, hb⟩; rw [hok]; obtain ⟨r1, r2, hB⟩ := box2 hb; have c1 := r1.cell; have l1 := r1.lt; have l2 := r2.lt)
        | (go_at_call 123; refine (in_any _ _ _ _).mono ?_; rintro e w1 ⟨rfl, rfl⟩; rw [hi])
        | (go_at_call 179; refine (rateOf_spec _ _).mono ?_; rintro e w1 ⟨rfl, rfl⟩; rw [hr])
        | (refine st_tm rfl rfl rfl rfl (r2.alloc _) rfl ?_; intro w2 r3 ho2 hs2))
    refine ret_row_tmp rfl rfl r3 und_tm rfl info_tm rfl rfl ?_
    exact ⟨rfl, below_onto (hB.alloc hB.size _) ho2 (by omega)⟩
  · have e : mults c n (rate m) = (c + n) / rate m - c / rate m := by unfold mults; rw [if_neg (by omega)]
    rw [e] at hk' hM
    generalize hR : rate m = R at *
    have q1 := quo_pos (a := c + n) (r := R) (by omega)
    have q2 := quo_pos (a := c) (r := R) (by omega)
    have d1 : 0 ≤ (c + n) / R := Int.ediv_nonneg (by omega) (by omega)
    have d2 : (c + n) / R ≤ c + n := Int.ediv_le_self _ (by omega)
    have d3 : 0 ≤ c / R := Int.ediv_nonneg (by omega) (by omega)
    have d4 : c / R ≤ c := Int.ediv_le_self _ (by omega)
    have hne : ¬ R = 0 := by omega
    generalize htk : ticks s k (v, 0) = tk
    go_enter Tryz.func129, Tryz.ntmps129
    go_wp2_with (first
        | (go_at_call 124; refine (timerOk_spec ⟨c, v, s, m⟩ _).mono ?_; rintro e w1 ⟨rfl, hb⟩; rw [hok]; obtain ⟨r1, r2, hB⟩ := box2 hb; have c1 := r1.cell; have l1 := r1.lt; have l2 := r2.lt)
        | (go_at_call 123; refine (in_any _ _ _ _).mono ?_; rintro e w1 ⟨rfl, rfl⟩; rw [hi])
        | (go_at_call 179; refine (rateOf_spec _ _).mono ?_; rintro e w1 ⟨rfl, rfl⟩; rw [hR]))
    go_quiet (fail)
    have R7 := (Row.new w1 #[.int .i64 (c + n), .int .i64 v, .int .i64 s, .int .i64 m] 26).drewN nq
    have R1 := (r1.alloc (.cells #[.int .i64 (c + n), .int .i64 v, .int .i64 s, .int .i64 m] 26)).drewN nq
    have R2 := (r2.alloc (.cells #[.int .i64 (c + n), .int .i64 v, .int .i64 s, .int .i64 m] 26)).drewN nq
    have hB7 := below_drewN (hB.alloc hB.size (.cells #[.int .i64 (c + n), .int .i64 v, .int .i64 s, .int .i64 m] 26)) nq
    have hsz := hB.size
    clear hb r1 r2 hB c1
    go_wp2_with fail
    go_loopw [8, 9] (fun r kk wr => ∃ (j : Nat) (v' r' : Int), r = .int .i64 r' ∧ kk = .int .i64 (j : Int) ∧ Row wr w1.heap.size #[.int .i64 (c + n), .int .i64 v', .int .i64 s, .int .i64 m] 26 ∧
        Row wr w.heap.size #[.int .i64 c, .int .i64 v, .int .i64 s, .int .i64 m] 26 ∧ Row wr (w.heap.size + 1) #[.int .i64 0, .int .i64 0, .int .i64 0, .int .i64 0] 26 ∧ Below w.heap.size w wr ∧
        ticks s j (v', r') = tk ∧ (0 ≤ v' ∧ v' ≤ 255) ∧ (0 ≤ r' ∧ r' + j ≤ 100000)) (fun _ kk _ => (intOf kk).toNat)
    case atStart => exact ⟨k, v, 0, rfl, rfl, R7, R1, R2, hB7, htk, hv, by omega⟩
    case round =>
      obtain ⟨j, v', r', rfl, rfl, x7, x1, x2, hBr, ht, hv', hr'⟩ := hrel
      clear R7 R1 R2 hB7 htk hk' e q1 q2 d1 d2 d3 d4 hM
      have c7 := x7.cell
      have c1 := x1.cell
      have f7 := x7.free
      rcases j with _ | j
      · go_wp2_with (refine st_tm rfl rfl rfl rfl x2 rfl ?_; intro w2 r3 ho2 hs2)
        refine ret_row_tmp rfl rfl r3 und_tm rfl info_tm rfl rfl ?_
        have ht' : (v', r') = tk := ht
        subst ht'
        exact ⟨rfl, below_onto hBr ho2 (by omega)⟩
      · have HT : Hid (ticks s (j + 1) (v', r') = tk) := ht
        clear ht
        have hj : (0 : Int) < ((j + 1 : Nat) : Int) := by omega
        by_cases h6 : v' + 1 = 256
        · go_wp2
          go_roundw
          case rel =>
            refine ⟨j, s, r' + 1, rfl, by simp, by simpa using (x7.set 1 (.int .i64 256)).set 1 (.int .i64 s), (x1.setOther _ _ ?_).setOther _ _ ?_, (x2.setOther _ _ ?_).setOther _ _ ?_, (hBr.setCell (p := ⟨w1.heap.size, 1, none⟩) hsz _).setCell (p := ⟨w1.heap.size, 1, none⟩) hsz _, ?_, hs, by omega⟩
            all_goals (try (simp; omega))
            have := HT.out
            simpa [ticks, tick, h6] using this
          case measure => simp [intOf]
        · go_wp2
          go_roundw
          case rel =>
            refine ⟨j, v' + 1, r', rfl, by simp, by simpa using x7.set 1 (.int .i64 (v' + 1)), x1.setOther _ _ ?_, x2.setOther _ _ ?_, hBr.setCell (p := ⟨w1.heap.size, 1, none⟩) hsz _, ?_, by omega, by omega⟩
            all_goals (try (simp; omega))
            have := HT.out
            simpa [ticks, tick, h6] using this
          case measure => simp [intOf]
theorem timerAfter_spec (t : Tm) (n : Int) (w : World) :
    Calls Tryz.prog 129 #[t.val, .int .i64 n] w fun e w' => e = .returned (.tuple #[(t.after n).1.val, .int .i64 (t.after n).2]) ∧ Below w.heap.size w w' := by
  cases hm : t.may n
  · rw [Tm.after_no hm]
    exact timerAfterS_no t n w hm
  · have e : t.after n = (⟨t.c + n, (ticks t.s (mults t.c n (rate t.m)).toNat (t.v, 0)).1, t.s, t.m⟩, (ticks t.s (mults t.c n (rate t.m)).toNat (t.v, 0)).2) := by simp [Tm.after, hm]
    rw [e]
    exact timerAfterS_yes t n w hm

theorem toTimer_any (t : Tm) (w : World) :
    Calls Tryz.prog 93 #[t.val] w fun e w' => e = .returned t.val ∧ Below w.heap.size w w' := by
  obtain ⟨c, v, s, m⟩ := t
  show Calls Tryz.prog 93 #[.agg #[.int .i64 c, .int .i64 v, .int .i64 s, .int .i64 m]] w _
  go_enter Tryz.func93, Tryz.ntmps93
  go_wp2
  refine ret_row rfl rfl ((Row.new1 (w := w.alloc _) (n := w.heap.size + 1) (by simp) #[.int .i64 c, .int .i64 v, .int .i64 s, .int .i64 m] 26).alloc _) und_tm rfl info_tm rfl ?_
  exact ⟨rfl, (((Below.refl _ _).alloc (Nat.le_refl _) _).alloc (by simp) _).alloc (by simp; omega) _⟩
theorem eqTimer_same (t : Tm) (w : World) :
    Calls Tryz.prog 98 #[t.val, t.val] w fun e w' => e = .returned (.bool true) ∧ Below w.heap.size w w' := by
  obtain ⟨c, v, s, m⟩ := t
  show Calls Tryz.prog 98 #[.agg #[.int .i64 c, .int .i64 v, .int .i64 s, .int .i64 m], .agg #[.int .i64 c, .int .i64 v, .int .i64 s, .int .i64 m]] w _
  go_enter Tryz.func98, Tryz.ntmps98
  go_wp2
  go_ret
  exact ⟨rfl, ((Below.refl _ _).alloc (Nat.le_refl _) _).alloc (by simp) _⟩
end Go.Proofs.YtghmkacamabndaaGreatDoor.Tmr
namespace Go.Proofs.YtghmkacamabndaaGreatDoor.Mem
open Go.ChangeShapes Go.WideShapes Go.RowKit Base Num Slc Rw Tmr

structure M3 where
  t : Int
  k : Int
  v : Int
def M3.nul : M3 := ⟨0, 0, 0⟩
def M3.cs (m : M3) : List Value := [.int .i64 m.t, .int .i64 m.k, .int .i64 m.v]
def M3.val (m : M3) : Value := .agg #[.int .i64 m.t, .int .i64 m.k, .int .i64 m.v]
def M3.ok (m : M3) : Bool := inn m.t 0 1000000100 && (if m.k = 1 ∨ m.k = 2 then inn m.v 0 1 else if m.k = 3 then bok m.v else false)
def later (a b : M3) : Bool := decide (b.t < a.t) || (a.t == b.t && decide (b.k < a.k))
def M3.at' (l : List M3) (i : Nat) : M3 := l.getD i M3.nul
def fits (l : List M3) (i : Nat) : Bool := (M3.at' l i).ok && !(decide (0 < i) && later (M3.at' l (i - 1)) (M3.at' l i))
def fitsTo (l : List M3) (n : Nat) : Bool := (List.range n).all (fits l)
def inboxOk (l : List M3) : Bool := fitsTo l l.length && decide (l.length ≤ 200)
theorem fits_all {l : List M3} : inboxOk l = true ↔ (∀ i, i < l.length → (M3.at' l i).ok = true) ∧ (∀ i, i + 1 < l.length → later (M3.at' l i) (M3.at' l (i + 1)) = false) ∧ l.length ≤ 200 := by
  simp only [inboxOk, Bool.and_eq_true, fitsTo, List.all_eq_true, List.mem_range, fits, decide_eq_true_eq]
  constructor
  · rintro ⟨h, hn⟩
    refine ⟨fun i hi => (h i hi).1, fun i hi => ?_, hn⟩
    have := (h (i + 1) hi).2
    simpa using this
  · rintro ⟨h1, h2, hn⟩
    refine ⟨fun i hi => ⟨h1 i hi, ?_⟩, hn⟩
    rcases i with _ | i
    · simp
    · have := h2 i hi
      simp [this]
end Go.Proofs.YtghmkacamabndaaGreatDoor.Mem
namespace Go.Proofs.YtghmkacamabndaaGreatDoor.Reg
open Go.RowKit Base

def deps (o : Oper) : List Nat := (o.after.toList.filter (Region.binds .any)).map (·.on)
def acyc (ops : Array Oper) : Bool := (List.range ops.size).all fun i => match ops[i]? with
  | some o => (deps o).all fun d => decide (d < i)
  | none => true
def dstOk (ops : Array Oper) (n : Nat) : Bool := (List.range ops.size).all fun i => match (ops[i]?).bind (·.dst) with
  | some k => decide (k < n) && (List.range ops.size).all fun j => j == i || (ops[j]?).bind (·.dst) != some k
  | none => true

structure Inv (ops : Array Oper) (G : World → Prop) (T : Nat → Value → World → Prop) (a0 : Act) (L : Nat → Bool) (a : Act) (w : World) : Prop where
  g : G w
  defers : a.defers = a0.defers
  size : a.tmps.size = a0.tmps.size
  slot : ∀ j k, (ops[j]?).bind (·.dst) = some k → L j = true → T j (a.tmps.getD k undef) w
  eff : ∀ j o, ops[j]? = some o → o.dst = none → L j = true → ∃ v, T j v w
  rest : ∀ k, (∀ j, L j = true → (ops[j]?).bind (·.dst) ≠ some k) → a.tmps.getD k undef = a0.tmps.getD k undef
  closed : ∀ j o d, ops[j]? = some o → L j = true → d ∈ deps o → L d = true

section
variable {P : Program} {ops : Array Oper} {Q : Exit → Act → World → Prop} {G : World → Prop} {T : Nat → Value → World → Prop} {R : Nat → World → World → Prop} {a0 a : Act} {L : Nat → Bool} {w w' : World} {i : Nat} {o : Oper} {v : Value}

theorem getD_put (a : Act) (d : Option Tmp) (v : Value) (k : Nat) (h : d ≠ some k) : (a.put d v).tmps.getD k undef = a.tmps.getD k undef := by
  cases d with
  | none => rfl
  | some d =>
    have hd : d ≠ k := fun e => h (by rw [e])
    show (a.tmps.setIfInBounds d v).getD k undef = _
    simp [Array.getD_eq_getD_getElem?, hd]
theorem getD_put_same (a : Act) (k : Nat) (v : Value) (hk : k < a.tmps.size) : (a.put (some k) v).tmps.getD k undef = v := by
  show (a.tmps.setIfInBounds k v).getD k undef = _
  simp [Array.getD_eq_getD_getElem?, hk]
theorem put_size (a : Act) (d : Option Tmp) (v : Value) : (a.put d v).tmps.size = a.tmps.size := by
  cases d with
  | none => rfl
  | some d => simp [Act.put]
theorem put_defers (a : Act) (d : Option Tmp) (v : Value) : (a.put d v).defers = a.defers := by
  cases d <;> rfl
theorem dst_one {n : Nat} (h : dstOk ops n = true) {i j k : Nat} (hi : (ops[i]?).bind (·.dst) = some k) (hj : (ops[j]?).bind (·.dst) = some k) : i = j := by
  have hlt : ∀ {x : Nat}, (ops[x]?).bind (·.dst) = some k → x < ops.size := fun {x} hx => by
    by_cases hl : x < ops.size
    · exact hl
    · have e : ops[x]? = none := by simp; omega
      simp [e] at hx
  have h1 := List.all_eq_true.1 h i (List.mem_range.2 (hlt hi))
  simp only [hi, Bool.and_eq_true] at h1
  have h2 := List.all_eq_true.1 h1.2 j (List.mem_range.2 (hlt hj))
  simp only [hj, bne_self_eq_false, Bool.or_false, beq_iff_eq] at h2
  exact h2.symm
theorem dst_lt {n : Nat} (h : dstOk ops n = true) {i k : Nat} (hi : (ops[i]?).bind (·.dst) = some k) : k < n := by
  have hlt : i < ops.size := by
    by_cases hl : i < ops.size
    · exact hl
    · have e : ops[i]? = none := by simp; omega
      simp [e] at hi
  have h1 := List.all_eq_true.1 h i (List.mem_range.2 hlt)
  simp only [hi, Bool.and_eq_true, decide_eq_true_eq] at h1
  exact h1.1
theorem Inv.next (h : Inv ops G T a0 L a w) (hd : dstOk ops a0.tmps.size = true) (mono : ∀ i j v w w', j ≠ i → T j v w → R i w w' → T j v w') (ho : ops[i]? = some o)
    (hr : ∀ d ∈ deps o, L d = true) (hT : T i v w') (hG : G w') (hR : R i w w') : Inv ops G T a0 (fun j => L j || j == i) (a.put o.dst v) w' where
  g := hG
  defers := (put_defers _ _ _).trans h.defers
  size := (put_size _ _ _).trans h.size
  slot := fun j k hk hl => by
    by_cases hj : j = i
    · subst hj
      rw [ho] at hk
      have hk' : o.dst = some k := hk
      rw [hk', getD_put_same _ _ _ (by rw [h.size]; exact dst_lt hd (i := j) (by rw [ho]; exact hk'))]
      exact hT
    · have hl' : L j = true := by simpa [hj] using hl
      have hne : o.dst ≠ some k := fun e => hj (dst_one hd hk (by rw [ho]; exact e))
      rw [getD_put _ _ _ _ hne]
      exact mono _ _ _ _ _ hj (h.slot j k hk hl') hR
  eff := fun j o' hj' hn hl => by
    by_cases hj : j = i
    · subst hj
      exact ⟨v, hT⟩
    · have hl' : L j = true := by simpa [hj] using hl
      obtain ⟨v', hv⟩ := h.eff j o' hj' hn hl'
      exact ⟨v', mono _ _ _ _ _ hj hv hR⟩
  rest := fun k hk => by
    have hne : o.dst ≠ some k := fun e => hk i (by simp) (by rw [ho]; exact e)
    rw [getD_put _ _ _ _ hne]
    exact h.rest k (fun j hj => hk j (by simp [hj]))
  closed := fun j o' d hj hl hd' => by
    by_cases e : j = i
    · subst e
      rw [ho] at hj; cases hj
      simp [hr d hd']
    · have hl' : L j = true := by simpa [e] using hl
      simp [h.closed j o' d hj hl' hd']

theorem countP_lt {l : List Nat} {p q : Nat → Bool} (h : ∀ x, p x = true → q x = true) {x : Nat} (hx : x ∈ l) (hq : q x = true) (hp : p x = false) : l.countP p < l.countP q := by
  induction l with
  | nil => simp at hx
  | cons y l ih =>
    have hle : l.countP p ≤ l.countP q := List.countP_mono_left (fun x _ => h x)
    rcases List.mem_cons.1 hx with rfl | hx
    · simp only [List.countP_cons, hq, hp, if_true]
      simp; omega
    · have := ih hx
      simp only [List.countP_cons]
      have hy : (if p y = true then 1 else 0) ≤ (if q y = true then 1 else 0) := by
        split
        · rename_i hy; rw [if_pos (h y hy)]; exact Nat.le_refl _
        · split <;> omega
      omega
def left (n : Nat) (listed : Array Bool) : Nat := (List.range n).countP fun i => !listed.getD i true
theorem mem_ready {listed : Array Bool} : i ∈ Region.ready .any ops listed ↔ i < ops.size ∧ listed.getD i true = false ∧ ∃ o, ops[i]? = some o ∧ ∀ d ∈ deps o, listed.getD d false = true := by
  simp only [Region.ready, List.mem_filter, List.mem_range, Bool.and_eq_true, Bool.not_eq_true']
  constructor
  · rintro ⟨h1, h2, h3⟩
    refine ⟨h1, h2, ?_⟩
    cases ho : ops[i]? with
    | none => simp [ho] at h3
    | some o =>
      refine ⟨o, rfl, fun d hd => ?_⟩
      simp only [ho, Option.map_some, Option.getD_some, Array.all_eq_true_iff_forall_mem, Bool.or_eq_true, Bool.not_eq_true'] at h3
      simp only [deps, List.mem_map, List.mem_filter] at hd
      obtain ⟨e, ⟨he, hb⟩, rfl⟩ := hd
      rcases h3 e (by simpa using he) with h | h
      · rw [hb] at h; cases h
      · exact h
  · rintro ⟨h1, h2, o, ho, h3⟩
    refine ⟨h1, h2, ?_⟩
    simp only [ho, Option.map_some, Option.getD_some, Array.all_eq_true_iff_forall_mem, Bool.or_eq_true, Bool.not_eq_true']
    intro e he
    cases hb : Region.binds .any e
    · exact .inl rfl
    · exact .inr (h3 e.on (by simp only [deps, List.mem_map, List.mem_filter]; exact ⟨e, ⟨by simpa using he, hb⟩, rfl⟩))
theorem all_listed (hac : acyc ops = true) {listed : Array Bool} (hr : Region.ready .any ops listed = []) (hs : listed.size = ops.size) : ∀ i, i < ops.size → listed.getD i true = true := by
  intro i
  induction i using Nat.strongRecOn with
  | ind i ih =>
    intro hi
    cases hl : listed.getD i true
    · have ho : ops[i]? = some ops[i] := Array.getElem?_eq_getElem hi
      have hm : i ∈ Region.ready .any ops listed := mem_ready.2 ⟨hi, hl, _, ho, fun d hd => by
        have h1 := List.all_eq_true.1 hac i (List.mem_range.2 hi)
        simp only [ho] at h1
        have h2 := List.all_eq_true.1 h1 d hd
        have hdi : d < i := of_decide_eq_true h2
        have h3 := ih d hdi (by omega)
        have hds : d < listed.size := by omega
        simpa [Array.getD_eq_getD_getElem?, Array.getElem?_eq_getElem hds] using h3⟩
      rw [hr] at hm
      simp at hm
    · rfl
theorem any_inv (hac : acyc ops = true) (hds : dstOk ops a0.tmps.size = true) (mono : ∀ i j v w w', j ≠ i → T j v w → R i w w' → T j v w')
    (step : ∀ (L : Nat → Bool) (i : Nat) (o : Oper) (a : Act) (w : World), ops[i]? = some o → Inv ops G T a0 L a w → L i = false → (∀ d ∈ deps o, L d = true) →
      wpOp P ops Q i (fun a' w' => ∃ v, a' = a.put o.dst v ∧ T i v w' ∧ G w' ∧ R i w w') a w)
    (done : ∀ a w, Inv ops G T a0 (fun _ => true) a w → Q .normal a w) :
    ∀ (fuel : Nat) (listed : Array Bool) (a : Act) (w : World), listed.size = ops.size → left ops.size listed ≤ fuel → Inv ops G T a0 (fun j => listed.getD j false) a w → wpAny P .any ops Q fuel listed a w := by
  have fin : ∀ (listed : Array Bool) (a : Act) (w : World), listed.size = ops.size → Region.ready .any ops listed = [] → Inv ops G T a0 (fun j => listed.getD j false) a w → Q .normal a w := fun listed a w hs hr hI => by
    refine done a w ?_
    have hall := all_listed hac hr hs
    have hL : ∀ j, j < ops.size → listed.getD j false = true := fun j hj => by
      have := hall j hj
      have hjl : j < listed.size := by omega
      simpa [Array.getD_eq_getD_getElem?, Array.getElem?_eq_getElem hjl] using this
    have hlt : ∀ {j k : Nat}, (ops[j]?).bind (·.dst) = some k → j < ops.size := fun {j k} hx => by
      by_cases hl : j < ops.size
      · exact hl
      · have e : ops[j]? = none := by simp; omega
        simp [e] at hx
    exact ⟨hI.g, hI.defers, hI.size, fun j k hk _ => hI.slot j k hk (hL j (hlt hk)), fun j o hj hn _ => hI.eff j o hj hn (hL j (by
      by_cases hl : j < ops.size
      · exact hl
      · have e : ops[j]? = none := by simp; omega
        simp [e] at hj)), fun k hk => hI.rest k (fun j hj => hk j rfl), fun _ _ _ _ _ _ => rfl⟩
  intro fuel
  induction fuel with
  | zero =>
    intro listed a w hs hf hI
    have hr : Region.ready .any ops listed = [] := by
      refine List.eq_nil_iff_forall_not_mem.2 fun i hi => ?_
      obtain ⟨h1, h2, _⟩ := mem_ready.1 hi
      have h0 : left ops.size listed = 0 := by omega
      have := (List.countP_eq_zero.1 h0) i (List.mem_range.2 h1)
      simp [h2] at this
    exact ⟨hr, fin listed a w hs hr hI⟩
  | succ fuel ih =>
    intro listed a w hs hf hI
    refine ⟨fun hr => fin listed a w hs hr hI, fun i hi => ?_⟩
    obtain ⟨h1, h2, o, ho, h3⟩ := mem_ready.1 hi
    have hil : i < listed.size := by omega
    have hLi : listed.getD i false = false := by
      simpa [Array.getD_eq_getD_getElem?, Array.getElem?_eq_getElem hil] using h2
    refine wpOp_mono ?_ (step (fun j => listed.getD j false) i o a w ho hI hLi h3)
    rintro a' w' ⟨v, rfl, hT, hG, hR⟩
    refine ih _ _ _ (by simpa using hs) ?_ ?_
    · have hlt : left ops.size (listed.setIfInBounds i true) < left ops.size listed := by
        refine countP_lt (x := i) (fun x hx => ?_) (List.mem_range.2 h1) (by simp [h2]) ?_
        · by_cases hxi : x = i
          · subst hxi; simp [h2]
          · simpa [Array.getD_eq_getD_getElem?, Array.getElem?_setIfInBounds, Ne.symm hxi] using hx
        · simp [Array.getD_eq_getD_getElem?, hil]
      omega
    · have hI' := hI.next hds mono ho h3 hT hG hR
      have e : (fun j => (listed.setIfInBounds i true).getD j false) = fun j => listed.getD j false || j == i := by
        funext j
        by_cases hj : j = i
        · subst hj; simp [Array.getD_eq_getD_getElem?, hil]
        · simp [Array.getD_eq_getD_getElem?, Ne.symm hj, hj]
      rw [e]
      exact hI'
theorem region_by_each {id : Nat} (hm : P.follows .mixedOrders = true) (hac : acyc ops = true) (G : World → Prop) (T : Nat → Value → World → Prop) (R : Nat → World → World → Prop) (hds : dstOk ops a0.tmps.size = true)
    (mono : ∀ i j v w w', j ≠ i → T j v w → R i w w' → T j v w') (hG : G w.drew)
    (step : ∀ (L : Nat → Bool) (i : Nat) (o : Oper) (a : Act) (w : World), ops[i]? = some o → Inv ops G T a0 L a w → L i = false → (∀ d ∈ deps o, L d = true) →
      wpOp P ops Q i (fun a' w' => ∃ v, a' = a.put o.dst v ∧ T i v w' ∧ G w' ∧ R i w w') a w)
    (done : ∀ a w, Inv ops G T a0 (fun _ => true) a w → Q .normal a w) : (Code.region id ops true).wp P Q a0 w := by
  have no : ∀ j, (Array.replicate ops.size false).getD j false = true → False := fun j hl => by
    by_cases hj : j < ops.size
    · simp [Array.getD_eq_getD_getElem?, hj] at hl
    · simp [Array.getD_eq_getD_getElem?, hj] at hl
  exact wp_region_any hm (any_inv hac hds mono step done ops.size _ a0 w.drew (by simp) (by
    refine Nat.le_trans List.countP_le_length ?_
    simp) ⟨hG, rfl, rfl, fun j k _ hl => (no j hl).elim, fun j o _ _ hl => (no j hl).elim, fun _ _ => rfl, fun j o d _ hl _ => (no j hl).elim⟩)
theorem region_by {id : Nat} (hm : P.follows .mixedOrders = true) (hac : acyc ops = true) (G : World → Prop) (T : Nat → Value → World → Prop) (R : World → World → Prop) (hds : dstOk ops a0.tmps.size = true)
    (mono : ∀ j v w w', T j v w → R w w' → T j v w') (hG : G w.drew)
    (step : ∀ (L : Nat → Bool) (i : Nat) (o : Oper) (a : Act) (w : World), ops[i]? = some o → Inv ops G T a0 L a w → L i = false → (∀ d ∈ deps o, L d = true) →
      wpOp P ops Q i (fun a' w' => ∃ v, a' = a.put o.dst v ∧ T i v w' ∧ G w' ∧ R w w') a w)
    (done : ∀ a w, Inv ops G T a0 (fun _ => true) a w → Q .normal a w) : (Code.region id ops true).wp P Q a0 w :=
  region_by_each hm hac G T (fun _ => R) hds (fun _ j v w w' _ h hr => mono j v w w' h hr) hG step done
theorem Inv.get (h : Inv ops G T a0 L a w) (hr : ∀ d ∈ deps o, L d = true) (j k : Nat) (hj : (ops[j]?).bind (·.dst) = some k) (hd : (deps o).contains j = true) : T j (a.tmps.getD k undef) w :=
  h.slot j k hj (hr j (by simpa using hd))
theorem Inv.old (h : Inv ops G T a0 L a w) (k : Nat) (hk : (ops.all fun o => o.dst != some k) = true) : a.tmps.getD k undef = a0.tmps.getD k undef :=
  h.rest k fun j _ e => by
    cases hj : ops[j]? with
    | none => simp [hj] at e
    | some o =>
      have h1 := (Array.all_eq_true_iff_forall_mem.1 hk) o (Array.mem_of_getElem? hj)
      simp [hj] at e
      simp [e] at h1
theorem at_op {K : Act → World → Prop} (ho : ops[i]? = some o) (hg : o.guard = none) (h : o.wp P a w K Q) : wpOp P ops Q i K a w := by
  unfold wpOp
  rw [ho]
  have hw : Region.wanted o (yielded ops a.tmps) = true := by simp [Region.wanted, hg]
  simp only [hw, if_true]
  exact .inl h
theorem move_op {x : Operand} {K : Act → World → Prop} (ho : o.op = .move x) (h : K (a.put o.dst (a.eval x)) w) : o.wp P a w K Q := by
  unfold Oper.wp execOp; rw [ho]; exact h
theorem assign_op {x : Operand} {K : Act → World → Prop} (ho : o.op = .assign x) (h : K (a.put o.dst (a.eval x)) w) : o.wp P a w K Q := by
  unfold Oper.wp execOp; rw [ho]; exact h
theorem val_op {K : Act → World → Prop} (hr : (execOp a.eval o).run P w = .ok (.value v) w) (h : K (a.put o.dst v) w) : o.wp P a w K Q := by
  unfold Oper.wp; rw [hr]; exact h
theorem at_guard {K : Act → World → Prop} (ho : ops[i]? = some o) {j k : Nat} {want : Bool} (hg : o.guard = some (j, want)) (hj : (ops[j]?).bind (·.dst) = some k) (hk : k < a.tmps.size) (hv : a.tmps.getD k undef = .bool want) (h : o.wp P a w K Q) : wpOp P ops Q i K a w := by
  unfold wpOp
  rw [ho]
  have e : a.tmps[k]? = some (.bool want) := by
    rw [Array.getD_eq_getD_getElem?, Array.getElem?_eq_getElem hk] at hv
    rw [Array.getElem?_eq_getElem hk]
    exact congrArg some hv
  have hy : yielded ops a.tmps j = some want := by
    unfold yielded
    rw [hj]
    simp [e]
  have hw : Region.wanted o (yielded ops a.tmps) = true := by simp [Region.wanted, hg, hy]
  simp only [hw, if_true]
  exact .inl h
theorem pick_op {x y z : Operand} {K : Act → World → Prop} {c : Bool} (ho : o.op = .pick x y z) (hx : a.eval x = .bool c) (h : K (a.put o.dst (if c then a.eval y else a.eval z)) w) : o.wp P a w K Q := by
  unfold Oper.wp execOp
  rw [ho]
  simp only [hx]
  cases c <;> exact h
theorem bin_op {b : BinOp} {t t2 : TypeId} {x y : Operand} {K : Act → World → Prop} {vx vy : Value} (ho : o.op = .binOp b t x y t2) (hx : a.eval x = vx) (hy : a.eval y = vy)
    (hr : ∀ w, (do eqGuard b t x y vx vy; binOp b t vx vy : Sem Value).run P w = .ok v w) (h : K (a.put o.dst v) w) : o.wp P a w K Q := by
  refine val_op ?_ h
  unfold execOp
  rw [ho]
  simp only [hx, hy]
  have e := hr w
  simp only [Sem.run_bind] at e ⊢
  rw [e]
  rfl
theorem call_op {f : FuncId} {fn : Func} {args : List Operand} {tys : Array TypeId} {K : Act → World → Prop} (ho : o.op = .call { callee := .value (.func f), args := args.toArray, argTypes := tys })
    (hf : P.funcs[f]? = some fn) (hn : (fn.name == "runtime.NumGoroutine") = false) (hb : fn.body.isNone = false)
    (h : Calls P f (args.map a.eval).toArray w fun e w' => ∃ v, e = .returned v ∧ K (a.put o.dst v) w') : o.wp P a w K Q := by
  unfold Oper.wp execOp
  rw [ho]
  show o.upon P a K Q ((callFunc f (#[] ++ args.toArray.map a.eval ++ #[])).run P w)
  have e : (callFunc f (#[] ++ args.toArray.map a.eval ++ #[])).run P w = .ok (.enter f (args.map a.eval).toArray) w := by
    have hn' : ¬ fn.name = "runtime.NumGoroutine" := by simpa using hn
    have hb' : ¬ fn.body = none := fun e => by simp [e] at hb
    simp [callFunc, hf, hn', hb']
  rw [e, Oper.upon_enter]
  refine h.mono ?_
  rintro e w' ⟨v, rfl, hk⟩
  exact hk
theorem lit_op {t e : TypeId} {n : Nat} {parts : List (Nat × Operand)} {vals : List (Nat × Value)} {cs : Array Value} {K : Act → World → Prop} {zz : Nat} (ho : o.op = .buildSlice t n parts.toArray) (hu : P.underlying t = some (.slice e))
    (hi : (P.info? e).map (fun i => (i.zero, i.size, i.bytes)) = some (some (.int .i64 0), 1, zz)) (hv : parts.map (fun (i, x) => (i, a.eval x)) = vals) (hn : n ≤ 16777216) (h0 : 0 < n)
    (hf : Instr.fill (fun i => some (i * 1, 1)) ((Array.range (n * 1)).map ((Value.int .i64 0).cells[· % (Value.int .i64 0).cells.size]!)) vals = some cs)
    (h : K (a.put o.dst (.slice (some ⟨w.heap.size, 0, none⟩) n n)) (w.alloc (.cells cs e))) : o.wp P a w K Q := by
  cases hq : P.info? e with
  | none => simp [hq] at hi
  | some ie =>
    simp [hq] at hi
    obtain ⟨hz, h1, _⟩ := hi
    refine wp_buildSlice t e n parts.toArray ho cs ie (.int .i64 0) hu hq hz (by rw [h1]; simp; omega) (by rw [h1]; simp; omega) ?_ h
    rw [h1, ← hf, ← hv]
    simp
theorem build_op {t : TypeId} {parts : List (Nat × Operand)} {vals : List (Nat × Value)} {cs : Array Value} {K : Act → World → Prop} (ho : o.op = .build t parts.toArray) (hv : parts.map (fun (i, x) => (i, a.eval x)) = vals)
    (hb : P.built t vals = some cs) (h : K (a.put o.dst (.agg cs)) w) : o.wp P a w K Q := by
  have e : (parts.toArray.map fun (i, x) => (i, a.eval x)).toList = vals := by rw [← hv]; simp
  refine wp_build t parts.toArray ho (by rw [e, hb]; rfl) ?_
  rw [e, hb]
  exact h
theorem load_op {ty : TypeId} {x : Operand} {K : Act → World → Prop} {ad : Addr} {kd : IntKind} (ho : o.op = .load ty x) (hu : P.underlying ty = some (.int kd)) (hx : a.eval x = .pointer (some ad)) (hc : w.cell? ad = some v)
    (h : K (a.put o.dst v) w) : o.wp P a w K Q := by
  unfold Oper.wp execOp
  have e : (loadVar ty ad).run P w = .ok v w := by simp [loadVar, isAgg, run_underlying hu, run_load, hc]
  simp only [ho, hx, Instr.loadAt, Instr.sureAddr, Sem.run_bind, Sem.run_pure, Result.andThen_ok, e]
  exact h
end

def Rel (X : Nat → Prop) (w w' : World) : Prop := w.heap.size ≤ w'.heap.size ∧ ∀ k, ¬ X k → k < w.heap.size → w'.heap[k]? = w.heap[k]?
theorem Rel.refl (X : Nat → Prop) (w : World) : Rel X w w := ⟨Nat.le_refl _, fun _ _ _ => rfl⟩
theorem Rel.onto {X : Nat → Prop} {p : Nat} {w w' : World} (h : Onto p w w') (hp : X p) : Rel X w w' := ⟨h.size, fun k hk hl => h.block k (fun e => hk (e ▸ hp)) hl⟩
theorem Rel.below {X : Nat → Prop} {w w' : World} (h : Below w.heap.size w w') : Rel X w w' := ⟨h.size, fun k _ hl => h.block k hl⟩
theorem Rel.alloc (X : Nat → Prop) (w : World) (o : Obj) : Rel X w (w.alloc o) := Rel.below ((Below.refl _ _).alloc (Nat.le_refl _) _)

/-! Kinds of what a slot holds. -/
def KIs (x : Value) (v : Value) (w : World) : Prop := v = x
def KInt (v : Value) (w : World) : Prop := ∃ z : Int, v = .int .i64 z
def KAny (v : Value) (w : World) : Prop := True
def Bears (X : Nat → Prop) (K : Value → World → Prop) : Prop := ∀ v w w', K v w → Rel X w w' → K v w'
theorem bears_is (X : Nat → Prop) (x : Value) : Bears X (KIs x) := fun _ _ _ h _ => h
theorem bears_int (X : Nat → Prop) : Bears X KInt := fun _ _ _ h _ => h
theorem bears_any (X : Nat → Prop) : Bears X KAny := fun _ _ _ _ _ => trivial
def kinds (l : List (Value → World → Prop)) (j : Nat) (v : Value) (w : World) : Prop := (l.getD j KAny) v w
theorem kinds_mono {X : Nat → Prop} {l : List (Value → World → Prop)} (h : ∀ K ∈ l, Bears X K) : ∀ j v w w', kinds l j v w → Rel X w w' → kinds l j v w' := fun j v w w' hk hr => by
  unfold kinds at *
  rw [List.getD_eq_getElem?_getD] at *
  cases e : l[j]? with
  | none => trivial
  | some K =>
    rw [e] at hk
    exact h K (List.mem_of_getElem? e) v w w' hk hr
def KRow (b : Nat) (cs : Array Value) (T : TypeId) (v : Value) (w : World) : Prop := w.heap[b]? = some (.cells cs T (0, 0))
theorem bears_row (X : Nat → Prop) (b : Nat) (cs : Array Value) (T : TypeId) (hb : ¬ X b) : Bears X (KRow b cs T) := fun _ w _ h hr => by
  have hl : b < w.heap.size := by
    by_cases hl : b < w.heap.size
    · exact hl
    · have e : w.heap[b]? = none := by simp; omega
      simp [KRow, e] at h
  exact (hr.2 b hb hl).trans h
def steps (s : Nat) (X Y : Nat → Prop) (i : Nat) : World → World → Prop := if i = s then Rel X else Rel Y
theorem steps_other {s i : Nat} {X Y : Nat → Prop} {w w' : World} (h : i ≠ s) (hr : Rel Y w w') : steps s X Y i w w' := by unfold steps; rw [if_neg h]; exact hr
theorem steps_same {s : Nat} {X Y : Nat → Prop} {w w' : World} (hr : Rel X w w') : steps s X Y s w w' := by unfold steps; rw [if_pos rfl]; exact hr
theorem kinds_steps {s : Nat} {X Y : Nat → Prop} {l : List (Value → World → Prop)} (hY : ∀ K ∈ l, Bears Y K) (hX : ∀ j K, l[j]? = some K → j ≠ s → Bears X K) :
    ∀ i j v w w', j ≠ i → kinds l j v w → steps s X Y i w w' → kinds l j v w' := fun i j v w w' hji hk hr => by
  unfold kinds at *
  rw [List.getD_eq_getElem?_getD] at *
  cases e : l[j]? with
  | none => trivial
  | some K =>
    rw [e] at hk
    by_cases hi : i = s
    · subst hi
      unfold steps at hr
      rw [if_pos rfl] at hr
      exact hX j K e hji v w w' hk hr
    · unfold steps at hr
      rw [if_neg hi] at hr
      exact hY K (List.mem_of_getElem? e) v w w' hk hr
theorem frame_lit (a : Act) (n : Nat) (h : a.tmps.size = n) : a = ⟨((List.range n).map fun k => a.tmps.getD k undef).toArray, a.defers⟩ := by
  obtain ⟨t, d⟩ := a
  congr 1
  apply Array.ext_getElem?
  intro k
  have h' : t.size = n := h
  by_cases hk : k < n
  · simp [hk, Array.getD_eq_getD_getElem?, Array.getElem?_eq_getElem (by omega : k < t.size)]
  · have e1 : t[k]? = none := by simp; omega
    simp [hk, e1]
end Go.Proofs.YtghmkacamabndaaGreatDoor.Reg
namespace Go.Proofs.YtghmkacamabndaaGreatDoor.Slf
open Go.RowKit Base Slc Rw Reg

structure Fl (α : Type) where
  T : TypeId
  S : TypeId
  n : Nat
  bytes : Nat
  F : α → List Value
  z : α
structure Fl.Ok {α : Type} (f : Fl α) : Prop where
  len : ∀ x, (f.F x).length = f.n
  pos : 0 < f.n
  one : ∀ x, (f.F x).all (·.oneCell') = true
  und : Tryz.prog.underlying f.S = some (.slice f.T)
  info : (Tryz.prog.info? f.T).map (fun i => (i.zero, i.size, i.bytes)) = some (some (.agg (f.F f.z).toArray), f.n, f.bytes)
  few : f.bytes ≤ 64
  small : f.n ≤ 64
  row : ∃ d, Tryz.prog.underlying f.T = some d ∧ d.isRow = true
def Fl.flat {α : Type} (f : Fl α) (l : List α) : List Value := l.flatMap f.F
section
variable {α : Type} {f : Fl α}
theorem flat_len (hf : f.Ok) (l : List α) : (f.flat l).length = l.length * f.n := by
  induction l with
  | nil => simp [Fl.flat]
  | cons x l ih =>
    have ih' : (l.flatMap f.F).length = l.length * f.n := ih
    simp only [Fl.flat, List.flatMap_cons, List.length_append, hf.len, ih', List.length_cons, Nat.add_mul, Nat.one_mul]
    omega
theorem flat_get (hf : f.Ok) {l : List α} {i : Nat} {x : α} (hi : l[i]? = some x) {j : Nat} (hj : j < f.n) : (f.flat l)[i * f.n + j]? = (f.F x)[j]? := by
  induction l generalizing i with
  | nil => simp at hi
  | cons y l ih =>
    cases i with
    | zero =>
      simp at hi
      subst hi
      simp only [Fl.flat, List.flatMap_cons, Nat.zero_mul, Nat.zero_add]
      rw [List.getElem?_append_left (by rw [hf.len]; exact hj)]
    | succ i =>
      simp at hi
      have h := ih hi
      simp only [Fl.flat, List.flatMap_cons] at h ⊢
      rw [List.getElem?_append_right (by rw [hf.len, Nat.add_mul, Nat.one_mul]; omega), hf.len, ← h]
      congr 1
      rw [Nat.add_mul, Nat.one_mul]
      omega
theorem flat_set (hf : f.Ok) {l : List α} {i : Nat} {x : α} (hi : l[i]? = some x) {j : Nat} (hj : j < f.n) {u : Value} {x' : α} (hx : (f.F x).set j u = f.F x') : (f.flat l).set (i * f.n + j) u = f.flat (l.set i x') := by
  induction l generalizing i with
  | nil => simp at hi
  | cons y l ih =>
    cases i with
    | zero =>
      simp at hi
      subst hi
      simp only [Fl.flat, List.flatMap_cons, Nat.zero_mul, Nat.zero_add, List.set_cons_zero]
      rw [List.set_append_left _ _ (by rw [hf.len]; exact hj), hx]
    | succ i =>
      simp at hi
      have h := ih hi
      simp only [Fl.flat, List.flatMap_cons, List.set_cons_succ] at h ⊢
      rw [List.set_append_right _ _ (by rw [hf.len, Nat.add_mul, Nat.one_mul]; omega), hf.len, ← h]
      congr 2
      rw [Nat.add_mul, Nat.one_mul]
      omega
theorem flat_take (hf : f.Ok) (l : List α) (k : Nat) : (f.flat l).take (k * f.n) = f.flat (l.take k) := by
  induction l generalizing k with
  | nil => simp [Fl.flat]
  | cons y l ih =>
    cases k with
    | zero => simp [Fl.flat]
    | succ k =>
      have h := ih k
      simp only [Fl.flat, List.flatMap_cons, List.take_succ_cons] at h ⊢
      rw [List.take_append, hf.len, ← h, List.take_of_length_le (by rw [hf.len, Nat.add_mul, Nat.one_mul]; omega)]
      congr 2
      rw [Nat.add_mul, Nat.one_mul]
      omega
theorem flat_app (l m : List α) : f.flat (l ++ m) = f.flat l ++ f.flat m := by simp [Fl.flat]
theorem flat_one (hf : f.Ok) (l : List α) : (f.flat l).all (·.oneCell') = true := by
  induction l with
  | nil => rfl
  | cons y l ih =>
    have ih' : (l.flatMap f.F).all (·.oneCell') = true := ih
    simp only [Fl.flat, List.flatMap_cons, List.all_append, ih', hf.one y, Bool.and_self]
end
def AtF {α : Type} (f : Fl α) (w : World) (a : Option Addr) (l : List α) : Prop :=
  l.length = 0 ∨ ∃ b off, a = some ⟨b, off, none⟩ ∧ b < w.heap.size ∧ ∀ k, k < l.length * f.n → w.cell? ⟨b, off + k, none⟩ = (f.flat l)[k]?
def SlF {α : Type} (f : Fl α) (w : World) (v : Value) (l : List α) : Prop :=
  ∃ a cap, v = .slice a l.length cap ∧ AtF f w a l ∧ l.length ≤ cap ∧ cap ≤ maxLen ∧ (a = none → l.length = 0 ∧ cap = 0)
def OwnF {α : Type} (f : Fl α) (base : Nat) (w : World) (v : Value) (l : List α) : Prop := w.ownsRow base f.T f.n v l.length (f.flat l)
section
variable {α : Type} {f : Fl α} {w w' : World} {v : Value} {l : List α} {a : Option Addr} {base p : Nat} {row : Option Nat}
theorem AtF.keep (h : AtF f w a l) (hs : w.heap.size ≤ w'.heap.size) (hk : 0 < l.length → ∀ x, a = some x → w'.heap[x.block]? = w.heap[x.block]?) : AtF f w' a l := by
  rcases h with h | ⟨b, off, rfl, hb, hc⟩
  · exact .inl h
  · by_cases h0 : 0 < l.length
    · refine .inr ⟨b, off, rfl, Nat.lt_of_lt_of_le hb hs, fun k hk' => ?_⟩
      rw [World.cell?_of_block (w := w) (a := ⟨b, off + k, none⟩) (hk h0 ⟨b, off, none⟩ rfl)]; exact hc k hk'
    · exact .inl (by omega)
theorem AtF.lt (h : AtF f w a l) (h0 : 0 < l.length) : ∀ x, a = some x → x.block < w.heap.size := by
  rcases h with h | ⟨b, off, rfl, hb, hc⟩
  · omega
  · intro x hx; cases hx; exact hb
theorem AtF.below (h : AtF f w a l) (hb : Below w.heap.size w w') : AtF f w' a l := h.keep hb.size fun h0 x hx => hb.block _ (h.lt h0 x hx)
theorem AtF.onto (h : AtF f w a l) (ho : Onto p w w') (hp : 0 < l.length → ∀ x, a = some x → x.block ≠ p) : AtF f w' a l := h.keep ho.size fun h0 x hx => ho.block _ (hp h0 x hx) (h.lt h0 x hx)
theorem SlF.below (h : SlF f w v l) (hb : Below w.heap.size w w') : SlF f w' v l := by
  obtain ⟨a, cap, rfl, h1, h2⟩ := h
  exact ⟨a, cap, rfl, h1.below hb, h2⟩
theorem SlF.lt (h : SlF f w v l) (h0 : 0 < l.length) : ∀ k, v.ownBlock = some k → k < w.heap.size := by
  obtain ⟨a, cap, rfl, h1, h2⟩ := h
  intro k hk
  cases a with
  | none => simp [Value.ownBlock] at hk
  | some x => have := h1.lt h0 x rfl; simp [Value.ownBlock] at hk; omega
theorem SlF.onto (h : SlF f w v l) (ho : Onto p w w') (hv : v.ownBlock ≠ some p) : SlF f w' v l := by
  obtain ⟨a, cap, rfl, h1, h2⟩ := h
  refine ⟨a, cap, rfl, h1.onto ho (fun _ x hx e => hv ?_), h2⟩
  subst hx
  simp [Value.ownBlock, e]
theorem SlF.grown (h : SlF f w v l) (hg : w.grownBy w' row) (hr : 0 < l.length → ∀ k, row = some k → v.ownBlock ≠ some k) : SlF f w' v l := by
  obtain ⟨a, cap, rfl, h1, h2⟩ := h
  refine ⟨a, cap, rfl, h1.keep hg.size (fun h0 x hx => hg.block _ (h1.lt h0 x hx) (fun e => hr h0 _ e.symm ?_)), h2⟩
  subst hx
  rfl
theorem SlF.drewN (h : SlF f w v l) (n : Nat) : SlF f (w.drewN n) v l := h
theorem SlF.one (h : SlF f w v l) : v.oneCell' = true := by
  obtain ⟨a, cap, rfl, _⟩ := h; rfl
theorem OwnF.nil (f : Fl α) (base : Nat) (w : World) : OwnF f base w (.slice none 0 0) [] := World.ownsRow_nil _ _ _ _
theorem OwnF.mono {base' : Nat} (h : OwnF f base w v l) (hb : base' ≤ base) : OwnF f base' w v l := by
  refine ⟨h.1, ?_⟩
  rcases h.2 with h0 | ⟨g, cap, cur, rfl, hb', rest⟩
  · exact .inl h0
  · exact .inr ⟨g, cap, cur, rfl, Nat.le_trans hb hb', rest⟩
theorem OwnF.kept (h : OwnF f base w v l) (hk : ∀ k, v.ownBlock = some k → w'.heap[k]? = w.heap[k]?) : OwnF f base w' v l := by
  refine ⟨h.1, ?_⟩
  rcases h.2 with h0 | ⟨g, cap, cur, rfl, hb, hg, rest⟩
  · exact .inl h0
  · exact .inr ⟨g, cap, cur, rfl, hb, by rw [hk g rfl]; exact hg, rest⟩
theorem OwnF.lt (h : OwnF f base w v l) : ∀ k, v.ownBlock = some k → base ≤ k ∧ k < w.heap.size := World.ownsRow.lt h
theorem OwnF.below (h : OwnF f base w v l) (hb : Below w.heap.size w w') : OwnF f base w' v l := h.kept fun k hk => hb.block k (h.lt k hk).2
theorem OwnF.onto (h : OwnF f base w v l) (ho : Onto p w w') (hp : v.ownBlock ≠ some p) : OwnF f base w' v l :=
  h.kept fun k hk => ho.block k (fun e => hp (by rw [hk, e])) (h.lt k hk).2
theorem OwnF.grown (h : OwnF f base w v l) (hg : w.grownBy w' row) (hr : ∀ k, row = some k → v.ownBlock ≠ some k) : OwnF f base w' v l :=
  h.kept fun k hk => hg.block k (h.lt k hk).2 (fun e => hr k e.symm hk)
theorem OwnF.drewN (h : OwnF f base w v l) (n : Nat) : OwnF f base (w.drewN n) v l := h
theorem OwnF.sl (hf : f.Ok) (h : OwnF f base w v l) : SlF f w v l := by
  have hlt := h.lt
  rcases h.2 with ⟨rfl, h0⟩ | ⟨g, cap, cur, rfl, hb, hg, hn, hm, hcs, ht⟩
  · exact ⟨none, 0, by rw [h0], .inl h0, by omega, by decide, fun _ => ⟨h0, rfl⟩⟩
  · refine ⟨some ⟨g, 0, none⟩, cap, rfl, .inr ⟨g, 0, rfl, (hlt g rfl).2, fun k hk => ?_⟩, hn, hm, by simp⟩
    have hk' : k < (f.flat l).length := by rw [flat_len hf]; exact hk
    have := World.ownsRow.cells h (g := g) rfl k ((f.flat l)[k]) (List.getElem?_eq_getElem hk')
    have e : (⟨g, 0, none⟩ : Addr).add k = ⟨g, 0 + k, none⟩ := by
      by_cases hi0 : k = 0 <;> simp [Addr.add, hi0]
    rw [← e, this, List.getElem?_eq_getElem hk']
theorem OwnF.one (hf : f.Ok) (h : OwnF f base w v l) : v.oneCell' = true := (h.sl hf).one
theorem OwnF.block (h : OwnF f base w v l) (h0 : 0 < l.length) : ∃ g cap, v = .slice (some ⟨g, 0, none⟩) l.length cap ∧ base ≤ g ∧ g < w.heap.size ∧ l.length ≤ cap ∧ cap ≤ maxLen := by
  have hlt := h.lt
  rcases h.2 with ⟨rfl, hn⟩ | ⟨g, cap, cur, rfl, hb, hg, hn, hm, hcs, ht⟩
  · omega
  · exact ⟨g, cap, rfl, hb, (hlt g rfl).2, hn, hm⟩
theorem OwnF.not_row {g : Nat} {cs : Array Value} {T : TypeId} (h : OwnF f base w v l) (hr : Row w g cs T) (hT : T ≠ f.T) : v.ownBlock ≠ some g := fun e => by
  rcases h.2 with ⟨rfl, _⟩ | ⟨g', cap, cur, rfl, _, hb, _⟩
  · simp [Value.ownBlock] at e
  · have e' : g' = g := Option.some.inj e
    rw [e', hr.row] at hb
    simp only [Option.some.injEq, Obj.cells.injEq] at hb
    exact hT hb.2.1
theorem OwnF.store (hf : f.Ok) {g n cap i j : Nat} {x x' : α} {u : Value} (h : OwnF f base w (.slice (some ⟨g, 0, none⟩) n cap) l) (hi : l[i]? = some x) (hj : j < f.n) (hx : (f.F x).set j u = f.F x') :
    OwnF f base (w.setCell ⟨g, i * f.n + j, none⟩ u) (.slice (some ⟨g, 0, none⟩) n cap) (l.set i x') ∧ w.grownBy (w.setCell ⟨g, i * f.n + j, none⟩ u) (some g) := by
  have hn : l.length = n := by
    rcases h.2 with ⟨e, _⟩ | ⟨g', cap', cur, e, _⟩
    · cases e
    · simp only [Value.slice.injEq] at e; exact e.2.1.symm
  subst hn
  have hs := World.ownsRow.stored h (i * f.n + j) u
  refine ⟨?_, hs.2⟩
  unfold OwnF
  rw [List.length_set, ← flat_set hf hi hj hx]
  exact hs.1
theorem OwnF.cellAt (hf : f.Ok) {g n cap i j : Nat} {x : α} (h : OwnF f base w (.slice (some ⟨g, 0, none⟩) n cap) l) (hi : l[i]? = some x) (hj : j < f.n) : w.cell? ⟨g, i * f.n + j, none⟩ = (f.F x)[j]? := by
  obtain ⟨a, c, he, h1, _⟩ := h.sl hf
  simp only [Value.slice.injEq] at he
  obtain ⟨rfl, rfl, rfl⟩ := he
  have hil : i < l.length := (List.getElem?_eq_some_iff.1 hi).1
  rcases h1 with h0 | ⟨b, off, hb, _, hc⟩
  · omega
  · simp only [Option.some.injEq, Addr.mk.injEq] at hb
    obtain ⟨rfl, rfl, _⟩ := hb
    have hlt : i * f.n + j < l.length * f.n := by
      have : (i + 1) * f.n ≤ l.length * f.n := Nat.mul_le_mul_right _ hil
      rw [Nat.add_mul, Nat.one_mul] at this
      omega
    have := hc _ hlt
    rw [Nat.zero_add] at this
    rw [this, flat_get hf hi hj]
theorem OwnF.free {g n cap : Nat} (h : OwnF f base w (.slice (some ⟨g, 0, none⟩) n cap) l) (j : Nat) : w.frozen? ⟨g, j, none⟩ = false := by
  have hn : l.length = n := by
    rcases h.2 with ⟨e, _⟩ | ⟨g', cap', cur, e, _⟩
    · cases e
    · simp only [Value.slice.injEq] at e; exact e.2.1.symm
  subst hn
  exact World.ownsRow.frozenAt h j
theorem appF (hf : f.Ok) {ops : Array Oper} {rest : List Oper} {o : Oper} {a : Act} {Q : Exit → Act → World → Prop} (hgd : o.guard = none) (s x : Operand)
    (ho : o.op = .call { callee := .builtin .append, args := #[s, x], argTypes := #[f.S, f.S] })
    (base : Nat) (l news : List α) (hown : OwnF f base w (a.eval s) l) (hn : SlF f w (a.eval x) news) (hbd : l.length + news.length ≤ 100000000) (hbase : base ≤ w.heap.size)
    (h : ∀ v' w', OwnF f base w' v' (l ++ news) → w.grownBy w' (a.eval s).ownBlock → wpList Tryz.prog ops Q rest (a.put o.dst v') w') : wpList Tryz.prog ops Q (o :: rest) a w := by
  obtain ⟨i0, hi, hz0, hz1, hz2⟩ := info_parts hf.info
  obtain ⟨ao, cap, hx, hat, hlc, hcm, hnil⟩ := hn
  have hfew := hf.few
  cases ao with
  | none =>
    obtain ⟨h0, rfl⟩ := hnil rfl
    have : news = [] := List.eq_nil_of_length_eq_zero h0
    subst this
    refine wpList_append_own_none hgd s x f.S ho base f.T i0 f.n hf.und hi (a.eval s) l.length (f.flat l) rfl hown hx ?_
    have hh := h (a.eval s) w (by simpa using hown) (World.grownBy.refl w _)
    exact hh
  | some ad =>
    refine wpList_append_own w hgd s x f.S ho base f.T i0 (.agg (f.F f.z).toArray) f.n f.bytes hf.und hi hz0 hz1 hz2 ?_ ?_ (a.eval s) l.length (f.flat l) rfl hown ad news.length cap (f.flat news) hx (flat_len hf _) ?_ ?_ ?_ ?_ hbase ?_
    · show (f.F f.z).toArray.size = f.n
      simp [hf.len]
    · exact hf.pos
    · intro j u hj
      have hjl : j < news.length * f.n := by
        have := (List.getElem?_eq_some_iff.1 hj).1
        rwa [flat_len hf] at this
      rcases hat with h0 | ⟨b, off, hb, hbs, hc⟩
      · rw [h0] at hjl; omega
      · cases hb
        have e : (⟨b, off, none⟩ : Addr).add j = ⟨b, off + j, none⟩ := by
          by_cases hi0 : j = 0 <;> simp [Addr.add, hi0]
        rw [e, hc j hjl, hj]
    · intro u hu
      exact List.all_eq_true.1 (flat_one hf news) u hu
    · unfold maxLen; omega
    · exact Nat.le_trans (Nat.mul_le_mul hbd hfew) (by decide)
    · intro v' w' h2 h3 _
      refine h v' w' ?_ h3
      unfold OwnF
      rw [List.length_append, flat_app]
      exact h2
theorem own_litF (f : Fl α) (hf : f.Ok) (base : Nat) (w : World) (cs : Array Value) (l : List α) (hc : cs.toList = f.flat l) (hm : l.length ≤ maxLen) (hb : base ≤ w.heap.size) :
    OwnF f base (w.alloc (.cells cs f.T)) (.slice (some ⟨w.heap.size, 0, none⟩) l.length l.length) l := by
  have hs : cs.size = l.length * f.n := by rw [← Array.length_toList, hc, flat_len hf]
  exact ⟨flat_len hf l, .inr ⟨w.heap.size, l.length, cs, rfl, hb, heap_alloc_new w _, Nat.le_refl _, hm, hs, by rw [← hc, List.take_of_length_le (by simp; omega)]⟩⟩
theorem made_flat (hf : f.Ok) (k : Nat) : (madeCells (Value.agg (f.F f.z).toArray).cells (k * f.n)).toList = f.flat (List.replicate k f.z) := by
  have hz : (Value.agg (f.F f.z).toArray).cells = (f.F f.z).toArray := rfl
  have hn := hf.pos
  rw [hz]
  apply List.ext_getElem?
  intro i
  by_cases hi : i < k * f.n
  · have h1 : i / f.n < k := by rw [Nat.div_lt_iff_lt_mul hn]; exact hi
    have h2 : i % f.n < f.n := Nat.mod_lt _ hn
    have e : i = i / f.n * f.n + i % f.n := by rw [Nat.mul_comm]; exact (Nat.div_add_mod i f.n).symm
    have hl := hf.len f.z
    have hr : (List.replicate k f.z)[i / f.n]? = some f.z := by simp [h1]
    have hg := flat_get hf hr h2
    rw [← e] at hg
    rw [hg]
    have hs : (f.F f.z).toArray.size = f.n := by simp [hl]
    simp only [madeCells, Array.getElem?_toList, Array.getElem?_map, Array.getElem?_range, hi, if_true, Option.map_some, hs]
    rw [List.getElem?_eq_getElem (by omega), getElem!_pos (f.F f.z).toArray (i % f.n) (by simp [hl]; exact h2)]
    simp
  · have h1 : ((madeCells (f.F f.z).toArray (k * f.n)).toList)[i]? = none := by simp [madeCells]; omega
    have h2 : (f.flat (List.replicate k f.z))[i]? = none := by
      rw [List.getElem?_eq_none_iff, flat_len hf]; simp; omega
    rw [h1, h2]
theorem makeF (hf : f.Ok) {ops : Array Oper} {rest : List Oper} {o : Oper} {a : Act} {Q : Exit → Act → World → Prop} (hgd : o.guard = none) (s x : Operand)
    (ho : o.op = .makeSlice f.S s x) (base n : Nat) (z : Int) (hz : z = (n : Int)) (hs : a.eval s = .int .i64 z) (hx : a.eval x = .int .i64 z) (hbd : n ≤ 100000000) (hbase : base ≤ w.heap.size)
    (h : ∀ w', OwnF f base w' (.slice (some ⟨w.heap.size, 0, none⟩) n n) (List.replicate n f.z) → w.grownBy w' none → wpList Tryz.prog ops Q rest (a.put o.dst (.slice (some ⟨w.heap.size, 0, none⟩) n n)) w') : wpList Tryz.prog ops Q (o :: rest) a w := by
  obtain ⟨i0, hi, hz0, hz1, hz2⟩ := info_parts hf.info
  have hfew := hf.few
  refine wpList_make_full w hgd s x f.S ho base f.T i0 (.agg (f.F f.z).toArray) f.n hf.und hi hz0 hz1 .i64 .i64 z z n hs hx hz hz ?_ (by unfold maxLen; omega) hbase ?_
  · rw [hz2]; exact Nat.le_trans (Nat.mul_le_mul hfew hbd) (by decide)
  intro w' h1 h2
  refine h w' ?_ h2
  unfold OwnF
  rw [made_flat hf] at h1
  simpa using h1
theorem SlF.take (hf : f.Ok) {b off n c : Nat} (h : SlF f w (.slice (some ⟨b, off, none⟩) n c) l) (k : Nat) (hk : k ≤ n) : SlF f w (.slice (some ⟨b, off, none⟩) k c) (l.take k) := by
  obtain ⟨a, c', he, h1, h2, h3, h4⟩ := h
  simp only [Value.slice.injEq] at he
  obtain ⟨rfl, rfl, rfl⟩ := he
  have hl : (l.take k).length = k := by simp; omega
  refine ⟨_, c, by rw [hl], ?_, by omega, h3, by simp⟩
  rcases h1 with h0 | ⟨b', off', hb, hbs, hc⟩
  · exact .inl (by omega)
  · refine .inr ⟨b', off', hb, hbs, fun j hj => ?_⟩
    rw [hl] at hj
    have h5 : k * f.n ≤ l.length * f.n := Nat.mul_le_mul_right _ hk
    rw [hc j (by omega), ← flat_take hf, List.getElem?_take, if_pos hj]
theorem SlF.drop (hf : f.Ok) {b off n c : Nat} (h : SlF f w (.slice (some ⟨b, off, none⟩) n c) l) (k : Nat) (hk : k ≤ n) (hkc : k < c) : SlF f w (.slice (some ⟨b, off + k * f.n, none⟩) (n - k) (c - k)) (l.drop k) := by
  obtain ⟨a, c', he, h1, h2, h3, h4⟩ := h
  simp only [Value.slice.injEq] at he
  obtain ⟨rfl, rfl, rfl⟩ := he
  have hl : (l.drop k).length = l.length - k := by simp
  refine ⟨_, c - k, by rw [hl], ?_, by omega, by omega, by simp⟩
  rcases h1 with h0 | ⟨b', off', hb, hbs, hc⟩
  · exact .inl (by omega)
  · simp only [Option.some.injEq, Addr.mk.injEq] at hb
    obtain ⟨rfl, rfl, _⟩ := hb
    refine .inr ⟨b, off + k * f.n, rfl, hbs, fun j hj => ?_⟩
    rw [hl] at hj
    have h5 : k * f.n + (l.length - k) * f.n = l.length * f.n := by rw [← Nat.add_mul]; congr 1; omega
    have e : f.flat l = f.flat (l.take k) ++ f.flat (l.drop k) := by rw [← flat_app, List.take_append_drop]
    have hlt : (f.flat (l.take k)).length = k * f.n := by rw [flat_len hf]; congr 1; simp; omega
    rw [Nat.add_assoc, hc (k * f.n + j) (by omega), e, List.getElem?_append_right (by omega), hlt]
    congr 1
    omega
theorem SlF.cell (hf : f.Ok) {b off n c i j : Nat} {x : α} (h : SlF f w (.slice (some ⟨b, off, none⟩) n c) l) (hi : l[i]? = some x) (hj : j < f.n) : w.cell? ⟨b, off + (i * f.n + j), none⟩ = (f.F x)[j]? := by
  obtain ⟨a, c', he, h1, _⟩ := h
  simp only [Value.slice.injEq] at he
  obtain ⟨rfl, rfl, rfl⟩ := he
  have hil : i < l.length := (List.getElem?_eq_some_iff.1 hi).1
  rcases h1 with h0 | ⟨b', off', hb, _, hc⟩
  · omega
  · simp only [Option.some.injEq, Addr.mk.injEq] at hb
    obtain ⟨rfl, rfl, _⟩ := hb
    have hlt : i * f.n + j < l.length * f.n := by
      have : (i + 1) * f.n ≤ l.length * f.n := Nat.mul_le_mul_right _ hil
      rw [Nat.add_mul, Nat.one_mul] at this
      omega
    rw [hc _ hlt, flat_get hf hi hj]
theorem SlF.shape (h : SlF f w v l) (h0 : 0 < l.length) : ∃ b off c, v = .slice (some ⟨b, off, none⟩) l.length c ∧ b < w.heap.size ∧ l.length ≤ c ∧ c ≤ maxLen := by
  obtain ⟨a, c, rfl, h1, h2, h3, h4⟩ := h
  rcases h1 with h | ⟨b, off, rfl, hb, hc⟩
  · omega
  · exact ⟨b, off, c, rfl, hb, h2, h3⟩
theorem SlF.range (hf : f.Ok) {b off n c i : Nat} {x : α} (h : SlF f w (.slice (some ⟨b, off, none⟩) n c) l) (hi : l[i]? = some x) : w.rangeAt b (off + i * f.n) (f.F x) := fun j u hj => by
  have hjn : j < f.n := by have := (List.getElem?_eq_some_iff.1 hj).1; rwa [hf.len] at this
  rw [Nat.add_assoc, h.cell hf hi hjn, hj]
theorem size_info (hf : f.Ok) (x : α) : (Tryz.prog.info? f.T).map (·.size) = some (f.F x).length := by
  obtain ⟨i0, hi, hz0, hz1, hz2⟩ := info_parts hf.info
  rw [hi, hf.len]
  simp [hz1]
section
variable {ops : Array Oper} {rest : List Oper} {o : Oper} {A : Act} {K : Act → World → Prop} {Q : Exit → Act → World → Prop} {x y : Operand}
theorem elF (hf : f.Ok) {b q : Nat} {e : α} (hgd : o.guard = none) (ho : o.op = .load f.T x) (hx : A.eval x = .pointer (some ⟨b, q, none⟩)) (hr : w.rangeAt b q (f.F e)) (h : wpList Tryz.prog ops Q rest (A.put o.dst (.agg (f.F e).toArray)) w) : wpList Tryz.prog ops Q (o :: rest) A w := by
  obtain ⟨d, hu, hd⟩ := hf.row
  exact wpList_load_mid hgd f.T x ho b q hx (f.F e) d hr hu hd (size_info hf e) h
theorem elF_op (hf : f.Ok) {b q : Nat} {e : α} (ho : o.op = .load f.T x) (hx : A.eval x = .pointer (some ⟨b, q, none⟩)) (hr : w.rangeAt b q (f.F e)) (h : K (A.put o.dst (.agg (f.F e).toArray)) w) : o.wp Tryz.prog A w K Q := by
  obtain ⟨d, hu, hd⟩ := hf.row
  exact wp_load_mid f.T x ho b q hx (f.F e) d hr hu hd (size_info hf e) h
theorem ixF_op (hf : f.Ok) {b off n c r : Nat} {k : IntKind} (ho : o.op = .indexAddr f.S x y) (hx : A.eval x = .slice (some ⟨b, off, none⟩) n c) (hy : A.eval y = .int k (r : Int)) (hr : r < n) (h : K (A.put o.dst (.pointer (some ⟨b, off + r * f.n, none⟩))) w) : o.wp Tryz.prog A w K Q := by
  unfold Oper.wp execOp
  have hu := hf.und
  have he : Tryz.prog.elem f.S = f.T := by simp [Program.elem, hu]
  have hu' : Tryz.prog.underlying f.S = some (.slice (Tryz.prog.elem f.S)) := by rw [he]; exact hu
  have hi : (0 : Int) ≤ (r : Int) ∧ (r : Int) < (n : Int) := by omega
  obtain ⟨i0, hie, hz0, h1, hz2⟩ := info_parts hf.info
  have ha : (⟨b, off, none⟩ : Addr).add (r * f.n) = ⟨b, off + r * f.n, none⟩ := Addr.add_mid _ _ _
  simp only [ho, hx, hy, Sem.run_bind, run_indexAt_slice w f.S _ _ _ _ _ hu', he, if_pos hi]
  simp only [sizeOf, typeInfo, hie, Sem.run_bind, run_program, Result.andThen_ok, Sem.run_pure, h1, Int.toNat_natCast, ha]
  exact h
theorem ixF (hf : f.Ok) {b off n c r : Nat} {k : IntKind} (hgd : o.guard = none) (ho : o.op = .indexAddr f.S x y) (hx : A.eval x = .slice (some ⟨b, off, none⟩) n c) (hy : A.eval y = .int k (r : Int)) (hr : r < n) (h : wpList Tryz.prog ops Q rest (A.put o.dst (.pointer (some ⟨b, off + r * f.n, none⟩))) w) : wpList Tryz.prog ops Q (o :: rest) A w :=
  wpList_plain hgd fun _ hK => ixF_op hf ho hx hy hr (hK _ _ h)
end
end
end Go.Proofs.YtghmkacamabndaaGreatDoor.Slf
namespace Go.Proofs.YtghmkacamabndaaGreatDoor.Mem
open Go.ChangeShapes Go.WideShapes Go.RowKit Base Num Slc Slf Rw Tmr Reg

def fM : Fl M3 := ⟨40, 31, 3, 24, M3.cs, M3.nul⟩
def fE : Fl M3 := ⟨142, 34, 3, 24, M3.cs, M3.nul⟩
theorem okM : fM.Ok := ⟨fun _ => rfl, by decide, fun _ => rfl, by kernel_rfl, by kernel_rfl, by decide, by decide, ⟨_, Tryz.underlying40, rfl⟩⟩
theorem okE : fE.Ok := ⟨fun _ => rfl, by decide, fun _ => rfl, by kernel_rfl, by kernel_rfl, by decide, by decide, ⟨_, Tryz.underlying142, rfl⟩⟩
theorem info_m3 : (Tryz.prog.info? 40).map (·.size) = some 3 := by kernel_rfl
theorem at_some {l : List M3} {i : Nat} (h : i < l.length) : l[i]? = some (M3.at' l i) := by
  unfold M3.at'
  rw [List.getD_eq_getElem?_getD, List.getElem?_eq_getElem h]
  rfl
abbrev M3Row (w : World) (g : Nat) (m : M3) : Prop := Row w g #[.int .i64 m.t, .int .i64 m.k, .int .i64 m.v] 40
theorem m3_val (m : M3) : m.val = .agg #[.int .i64 m.t, .int .i64 m.k, .int .i64 m.v] := rfl
section
variable {ops : Array Oper} {rest : List Oper} {o : Oper} {a : Act} {w : World} {Q : Exit → Act → World → Prop} {x y : Operand} {g k : Nat} {v : Value} {m : M3}
theorem box_m3 (hgd : o.guard = none) (ho : o.op = .box 40 x) (hx : a.eval x = m.val)
    (h : ∀ w', M3Row w' w.heap.size m → Below w.heap.size w w' → wpList Tryz.prog ops Q rest (a.put o.dst (.pointer (some ⟨w.heap.size, 0, none⟩))) w') : wpList Tryz.prog ops Q (o :: rest) a w :=
  wpList_plain hgd fun _ hK => by
    have e : (Instr.box 40 m.val).run Tryz.prog w = .ok (.pointer (some ⟨w.heap.size, 0, none⟩)) (w.alloc (.cells #[.int .i64 m.t, .int .i64 m.k, .int .i64 m.v] 40)) := rfl
    unfold Oper.wp execOp
    simp only [ho, hx, Sem.run_bind, Result.andThen_ok, e]
    exact hK _ _ (h _ (Row.new _ _ _) ((Below.refl _ _).alloc (Nat.le_refl _) _))
theorem ld_m3 (hgd : o.guard = none) (ho : o.op = .load 40 x) (hx : a.eval x = .pointer (some ⟨g, 0, none⟩)) (hr : M3Row w g m)
    (h : wpList Tryz.prog ops Q rest (a.put o.dst m.val) w) : wpList Tryz.prog ops Q (o :: rest) a w :=
  ld_row hgd _ x ho hx hr Tryz.underlying40 rfl info_m3 h
end
theorem at_skip {P : Program} {ops : Array Oper} {Q : Exit → Act → World → Prop} {i : Nat} {o : Oper} {a : Act} {w : World} {K : Act → World → Prop} (ho : ops[i]? = some o) {j k : Nat} {want : Bool} (hg : o.guard = some (j, want)) (hj : (ops[j]?).bind (·.dst) = some k) (hv : a.tmps.getD k undef ≠ .bool want) (h : K (a.put o.dst undef) w) : wpOp P ops Q i K a w := by
  unfold wpOp
  rw [ho]
  have hy : yielded ops a.tmps j ≠ some want := by
    unfold yielded
    rw [hj]
    rw [Array.getD_eq_getD_getElem?] at hv
    cases hq : a.tmps[k]? with
    | none => simp [hq]
    | some v =>
      rw [hq] at hv
      simp only [Option.bind_some, hq]
      cases v <;> simp_all
  have hw : Region.wanted o (yielded ops a.tmps) = false := by
    simp only [Region.wanted, hg]
    simpa using hy
  simp only [hw, Bool.false_eq_true, if_false]
  exact h
theorem subN (i j : Int) (x y : Operand) (w : World) (h0 : -9223372036854775808 ≤ i - j) (h1 : i - j ≤ 9223372036854775807) : (do eqGuard .sub 3 x y (.int .i64 i) (.int .i64 j); binOp .sub 3 (.int .i64 i) (.int .i64 j) : Sem Value).run Tryz.prog w = .ok (.int .i64 (i - j)) w := by
  have e : IntKind.i64.wrap (i - j) = i - j := by
    simp [IntKind.wrap, IntKind.bits, IntKind.signed]
    omega
  have : (do eqGuard .sub 3 x y (.int .i64 i) (.int .i64 j); binOp .sub 3 (.int .i64 i) (.int .i64 j) : Sem Value).run Tryz.prog w = .ok (.int .i64 (IntKind.i64.wrap (i - j))) w := by simp [go_sem]
  rw [this, e]
theorem l9MsgOk_spec (m : M3) (w : World) : Calls Tryz.prog 67 #[m.val] w fun e w' => e = .returned (.bool m.ok) ∧ Below w.heap.size w w' := by
  obtain ⟨vv, hvv⟩ : ∃ vv, vv = m.val := ⟨_, rfl⟩
  have HO : Hid (m.ok = (inn m.t 0 1000000100 && (if m.k = 1 ∨ m.k = 2 then inn m.v 0 1 else if m.k = 3 then bok m.v else false))) := show _ = _ from rfl
  rw [← hvv]
  cases h0 : inn m.t 0 1000000100
  · go_enter Tryz.func67, Tryz.ntmps67
    go_wp2_with (first
      | (refine box_m3 rfl rfl hvv ?_; intro w0 r0 hB0; have c0 : w0.cell? ⟨w.heap.size, 0, none⟩ = some (.int .i64 m.t) := r0.cell 0)
      | (go_at_call 123; refine (Tmr.in_any _ _ _ _).mono ?_; rintro e w2 ⟨rfl, rfl⟩; rw [h0]))
    go_ret
    exact ⟨ret_bool (by rw [HO.out, h0]; rfl), hB0⟩
  · by_cases k1 : m.k = 1
    · go_enter Tryz.func67, Tryz.ntmps67
      go_wp2_with (first
        | (refine box_m3 rfl rfl hvv ?_; intro w0 r0 hB0; have c0 : w0.cell? ⟨w.heap.size, 0, none⟩ = some (.int .i64 m.t) := r0.cell 0; have c1 : w0.cell? ⟨w.heap.size, 1, none⟩ = some (.int .i64 m.k) := r0.cell 1; rw [k1] at c1; have c2 : w0.cell? ⟨w.heap.size, 2, none⟩ = some (.int .i64 m.v) := r0.cell 2)
        | (go_at_call 123; refine (Tmr.in_any _ _ _ _).mono ?_; rintro e w2 ⟨rfl, rfl⟩; first | rw [h0] | skip))
      go_ret
      exact ⟨ret_bool (by rw [HO.out, h0, if_pos (.inl k1)]; simp), hB0⟩
    by_cases k2 : m.k = 2
    · go_enter Tryz.func67, Tryz.ntmps67
      go_wp2_with (first
        | (refine box_m3 rfl rfl hvv ?_; intro w0 r0 hB0; have c0 : w0.cell? ⟨w.heap.size, 0, none⟩ = some (.int .i64 m.t) := r0.cell 0; have c1 : w0.cell? ⟨w.heap.size, 1, none⟩ = some (.int .i64 m.k) := r0.cell 1; rw [k2] at c1; have c2 : w0.cell? ⟨w.heap.size, 2, none⟩ = some (.int .i64 m.v) := r0.cell 2)
        | (go_at_call 123; refine (Tmr.in_any _ _ _ _).mono ?_; rintro e w2 ⟨rfl, rfl⟩; first | rw [h0] | skip))
      go_ret
      exact ⟨ret_bool (by rw [HO.out, h0, if_pos (.inr k2)]; simp), hB0⟩
    by_cases k3 : m.k = 3
    · go_enter Tryz.func67, Tryz.ntmps67
      go_wp2_with (first
        | (refine box_m3 rfl rfl hvv ?_; intro w0 r0 hB0; have c0 : w0.cell? ⟨w.heap.size, 0, none⟩ = some (.int .i64 m.t) := r0.cell 0; have c1 : w0.cell? ⟨w.heap.size, 1, none⟩ = some (.int .i64 m.k) := r0.cell 1; rw [k3] at c1; have c2 : w0.cell? ⟨w.heap.size, 2, none⟩ = some (.int .i64 m.v) := r0.cell 2)
        | (go_at_call 123; refine (Tmr.in_any _ _ _ _).mono ?_; rintro e w2 ⟨rfl, rfl⟩; rw [h0])
        | (go_at_call 122; refine (byteOk_spec _ _).mono ?_; rintro e w2 ⟨rfl, rfl⟩))
      go_ret
      exact ⟨ret_bool (by rw [HO.out, h0, if_neg (by omega), if_pos k3]; simp), hB0⟩
    have b1 : (m.k == 1) = false := by simpa using k1
    have b2 : (m.k == 2) = false := by simpa using k2
    have b3 : (m.k == 3) = false := by simpa using k3
    go_enter Tryz.func67, Tryz.ntmps67
    go_wp2_with (first
      | (refine box_m3 rfl rfl hvv ?_; intro w0 r0 hB0; have c0 : w0.cell? ⟨w.heap.size, 0, none⟩ = some (.int .i64 m.t) := r0.cell 0; have c1 : w0.cell? ⟨w.heap.size, 1, none⟩ = some (.int .i64 m.k) := r0.cell 1)
      | (go_at_call 123; refine (Tmr.in_any _ _ _ _).mono ?_; rintro e w2 ⟨rfl, rfl⟩; rw [h0]))
    go_ret
    exact ⟨ret_bool (by rw [HO.out, h0, if_neg (by omega), if_neg k3]; simp), hB0⟩
theorem l9Later_spec (a b : M3) (w : World) : Calls Tryz.prog 72 #[a.val, b.val] w fun e w' => e = .returned (.bool (later a b)) ∧ Below w.heap.size w w' := by
  have HO : Hid (later a b = (decide (b.t < a.t) || (a.t == b.t && decide (b.k < a.k)))) := show _ = _ from rfl
  have hB : Below w.heap.size w ((w.alloc (.cells #[.int .i64 a.t, .int .i64 a.k, .int .i64 a.v] 40)).alloc (.cells #[.int .i64 b.t, .int .i64 b.k, .int .i64 b.v] 40)) := ((Below.refl _ w).alloc (Nat.le_refl _) _).alloc (by simp) _
  have HB : Hid (Below w.heap.size w ((w.alloc (.cells #[.int .i64 a.t, .int .i64 a.k, .int .i64 a.v] 40)).alloc (.cells #[.int .i64 b.t, .int .i64 b.k, .int .i64 b.v] 40))) := hB
  clear hB
  rw [m3_val, m3_val]
  generalize later a b = r at HO ⊢
  obtain ⟨t1, k1, v1⟩ := a
  obtain ⟨t2, k2, v2⟩ := b
  by_cases h1 : t2 < t1
  · have d1 : decide (t2 < t1) = true := by simpa using h1
    go_enter Tryz.func72, Tryz.ntmps72
    go_wp2
    go_ret
    exact ⟨ret_bool (by rw [HO.out]; simp [d1]), HB.out⟩
  · have d1 : decide (t2 < t1) = false := by simpa using h1
    by_cases h2 : t1 = t2
    · subst h2
      by_cases h3 : k2 < k1
      · go_enter Tryz.func72, Tryz.ntmps72
        go_wp2
        go_ret
        exact ⟨ret_bool (by rw [HO.out]; simp [h3]), HB.out⟩
      · go_enter Tryz.func72, Tryz.ntmps72
        go_wp2
        go_ret
        exact ⟨ret_bool (by rw [HO.out]; simp [h3]), HB.out⟩
    · have d2 : (t1 == t2) = false := by simpa using h2
      go_enter Tryz.func72, Tryz.ntmps72
      go_wp2
      go_ret
      exact ⟨ret_bool (by rw [HO.out]; simp [d1, d2]), HB.out⟩
end Go.Proofs.YtghmkacamabndaaGreatDoor.Mem
namespace Go.Proofs.YtghmkacamabndaaGreatDoor.Reg
open Go.RowKit Base

def at_ (a : Act) (k : Nat) : Value := a.tmps.getD k undef
structure InvG (ops : Array Oper) (G : World → Prop) (T : Nat → (Nat → Value) → World → Prop) (a0 : Act) (L : Nat → Bool) (a : Act) (w : World) : Prop where
  g : G w
  defers : a.defers = a0.defers
  size : a.tmps.size = a0.tmps.size
  told : ∀ j o, ops[j]? = some o → L j = true → T j (at_ a) w
  rest : ∀ k, (∀ j, L j = true → (ops[j]?).bind (·.dst) ≠ some k) → a.tmps.getD k undef = a0.tmps.getD k undef
  closed : ∀ j o d, ops[j]? = some o → L j = true → d ∈ deps o → L d = true
def Mono (ops : Array Oper) (T : Nat → (Nat → Value) → World → Prop) (R : Nat → World → World → Prop) : Prop :=
  ∀ (L : Nat → Bool) (i j : Nat) (oi oj : Oper) (f f' : Nat → Value) (w w' : World), ops[i]? = some oi → ops[j]? = some oj → L i = false → L j = true → (∀ d ∈ deps oj, L d = true) →
    (∀ k, oi.dst ≠ some k → f' k = f k) → T j f w → R i w w' → T j f' w'

section
variable {P : Program} {ops : Array Oper} {Q : Exit → Act → World → Prop} {G : World → Prop} {T : Nat → (Nat → Value) → World → Prop} {R : Nat → World → World → Prop} {a0 a : Act} {L : Nat → Bool} {w w' : World} {i : Nat} {o : Oper} {v : Value}
theorem InvG.next (h : InvG ops G T a0 L a w) (mono : Mono ops T R) (ho : ops[i]? = some o) (hL : L i = false)
    (hr : ∀ d ∈ deps o, L d = true) (hT : T i (at_ (a.put o.dst v)) w') (hG : G w') (hR : R i w w') : InvG ops G T a0 (fun j => L j || j == i) (a.put o.dst v) w' where
  g := hG
  defers := (put_defers _ _ _).trans h.defers
  size := (put_size _ _ _).trans h.size
  told := fun j oj hj hl => by
    by_cases hji : j = i
    · subst hji; exact hT
    · have hl' : L j = true := by simpa [hji] using hl
      exact mono L i j o oj (at_ a) _ w w' ho hj hL hl' (fun d hd => h.closed j oj d hj hl' hd) (fun k hk => getD_put _ _ _ _ hk) (h.told j oj hj hl') hR
  rest := fun k hk => by
    have hne : o.dst ≠ some k := fun e => hk i (by simp) (by rw [ho]; exact e)
    rw [getD_put _ _ _ _ hne]
    exact h.rest k (fun j hj => hk j (by simp [hj]))
  closed := fun j o' d hj hl hd' => by
    by_cases e : j = i
    · subst e
      rw [ho] at hj; cases hj
      simp [hr d hd']
    · have hl' : L j = true := by simpa [e] using hl
      simp [h.closed j o' d hj hl' hd']
theorem any_gen (hac : acyc ops = true) (mono : Mono ops T R)
    (step : ∀ (L : Nat → Bool) (i : Nat) (o : Oper) (a : Act) (w : World), ops[i]? = some o → InvG ops G T a0 L a w → L i = false → (∀ d ∈ deps o, L d = true) →
      wpOp P ops Q i (fun a' w' => ∃ v, a' = a.put o.dst v ∧ T i (at_ (a.put o.dst v)) w' ∧ G w' ∧ R i w w') a w)
    (done : ∀ a w, InvG ops G T a0 (fun _ => true) a w → Q .normal a w) :
    ∀ (fuel : Nat) (listed : Array Bool) (a : Act) (w : World), listed.size = ops.size → left ops.size listed ≤ fuel → InvG ops G T a0 (fun j => listed.getD j false) a w → wpAny P .any ops Q fuel listed a w := by
  have fin : ∀ (listed : Array Bool) (a : Act) (w : World), listed.size = ops.size → Region.ready .any ops listed = [] → InvG ops G T a0 (fun j => listed.getD j false) a w → Q .normal a w := fun listed a w hs hr hI => by
    refine done a w ?_
    have hall := all_listed hac hr hs
    have hL : ∀ j o, ops[j]? = some o → listed.getD j false = true := fun j o hj => by
      have hjs : j < ops.size := by
        by_cases hl : j < ops.size
        · exact hl
        · have e : ops[j]? = none := by simp; omega
          rw [e] at hj; cases hj
      have := hall j hjs
      have hjl : j < listed.size := by omega
      simpa [Array.getD_eq_getD_getElem?, Array.getElem?_eq_getElem hjl] using this
    exact ⟨hI.g, hI.defers, hI.size, fun j o hj _ => hI.told j o hj (hL j o hj), fun k hk => hI.rest k (fun j hj => hk j rfl), fun _ _ _ _ _ _ => rfl⟩
  intro fuel
  induction fuel with
  | zero =>
    intro listed a w hs hf hI
    have hr : Region.ready .any ops listed = [] := by
      refine List.eq_nil_iff_forall_not_mem.2 fun i hi => ?_
      obtain ⟨h1, h2, _⟩ := mem_ready.1 hi
      have h0 : left ops.size listed = 0 := by omega
      have := (List.countP_eq_zero.1 h0) i (List.mem_range.2 h1)
      simp [h2] at this
    exact ⟨hr, fin listed a w hs hr hI⟩
  | succ fuel ih =>
    intro listed a w hs hf hI
    refine ⟨fun hr => fin listed a w hs hr hI, fun i hi => ?_⟩
    obtain ⟨h1, h2, o, ho, h3⟩ := mem_ready.1 hi
    have hil : i < listed.size := by omega
    have hLi : listed.getD i false = false := by
      simpa [Array.getD_eq_getD_getElem?, Array.getElem?_eq_getElem hil] using h2
    refine wpOp_mono ?_ (step (fun j => listed.getD j false) i o a w ho hI hLi h3)
    rintro a' w' ⟨v, rfl, hT, hG, hR⟩
    refine ih _ _ _ (by simpa using hs) ?_ ?_
    · have hlt : left ops.size (listed.setIfInBounds i true) < left ops.size listed := by
        refine countP_lt (x := i) (fun x hx => ?_) (List.mem_range.2 h1) (by simp [h2]) ?_
        · by_cases hxi : x = i
          · subst hxi; simp [h2]
          · simpa [Array.getD_eq_getD_getElem?, Array.getElem?_setIfInBounds, Ne.symm hxi] using hx
        · simp [Array.getD_eq_getD_getElem?, hil]
      omega
    · have hI' := hI.next mono ho hLi h3 hT hG hR
      have e : (fun j => (listed.setIfInBounds i true).getD j false) = fun j => listed.getD j false || j == i := by
        funext j
        by_cases hj : j = i
        · subst hj; simp [Array.getD_eq_getD_getElem?, hil]
        · simp [Array.getD_eq_getD_getElem?, Ne.symm hj, hj]
      rw [e]
      exact hI'
theorem region_gen {id : Nat} (hm : P.follows .mixedOrders = true) (hac : acyc ops = true) (G : World → Prop) (T : Nat → (Nat → Value) → World → Prop) (R : Nat → World → World → Prop)
    (mono : Mono ops T R) (hG : G w.drew)
    (step : ∀ (L : Nat → Bool) (i : Nat) (o : Oper) (a : Act) (w : World), ops[i]? = some o → InvG ops G T a0 L a w → L i = false → (∀ d ∈ deps o, L d = true) →
      wpOp P ops Q i (fun a' w' => ∃ v, a' = a.put o.dst v ∧ T i (at_ (a.put o.dst v)) w' ∧ G w' ∧ R i w w') a w)
    (done : ∀ a w, InvG ops G T a0 (fun _ => true) a w → Q .normal a w) : (Code.region id ops true).wp P Q a0 w := by
  have no : ∀ j, (Array.replicate ops.size false).getD j false = true → False := fun j hl => by
    by_cases hj : j < ops.size
    · simp [Array.getD_eq_getD_getElem?, hj] at hl
    · simp [Array.getD_eq_getD_getElem?, hj] at hl
  exact wp_region_any hm (any_gen hac mono step done ops.size _ a0 w.drew (by simp) (by
    refine Nat.le_trans List.countP_le_length ?_
    simp) ⟨hG, rfl, rfl, fun j o _ hl => (no j hl).elim, fun _ _ => rfl, fun j o d _ hl _ => (no j hl).elim⟩)
theorem InvG.get (h : InvG ops G T a0 L a w) (hr : ∀ d ∈ deps o, L d = true) (j : Nat) {oj : Oper} (hj : ops[j]? = some oj) (hd : (deps o).contains j = true) : T j (at_ a) w :=
  h.told j oj hj (hr j (by simpa using hd))
theorem InvG.old (h : InvG ops G T a0 L a w) (k : Nat) (hk : (ops.all fun o => o.dst != some k) = true) : a.tmps.getD k undef = a0.tmps.getD k undef :=
  h.rest k fun j _ e => by
    cases hj : ops[j]? with
    | none => simp [hj] at e
    | some o =>
      have h1 := (Array.all_eq_true_iff_forall_mem.1 hk) o (Array.mem_of_getElem? hj)
      simp [hj] at e
      simp [e] at h1
end
end Go.Proofs.YtghmkacamabndaaGreatDoor.Reg
namespace Go.Proofs.YtghmkacamabndaaGreatDoor.Mp
open Go.RowKit Base

def mget : List (Int × Int) → Int → Option Int
  | [], _ => none
  | (k, v) :: r, q => if q = k then some v else mget r q
def mput : List (Int × Int) → Int → Int → List (Int × Int)
  | [], q, n => [(q, n)]
  | (k, v) :: r, q, n => if q = k then (k, n) :: r else (k, v) :: mput r q n
def mdel : List (Int × Int) → Int → List (Int × Int)
  | [], _ => []
  | (k, v) :: r, q => if q = k then r else (k, v) :: mdel r q
theorem mget_mput : ∀ (L : List (Int × Int)) (q n x : Int), mget (mput L q n) x = if x = q then some n else mget L x
  | [], q, n, x => by simp [mput, mget]
  | (k, v) :: r, q, n, x => by
    by_cases h : q = k
    · subst h
      by_cases hx : x = q <;> simp [mput, mget, hx]
    · by_cases hx : x = k
      · have : ¬ x = q := by omega
        simp [mput, mget, h, hx]
        omega
      · simp [mput, mget, h, hx, mget_mput r q n x]
def mfind : List (Int × Int) → Int → Nat → Option (Nat × Int)
  | [], _, _ => none
  | (k, v) :: r, q, i => if q = k then some (i, v) else mfind r q (i + 1)
def Ents (es : List MapEntry) (L : List (Int × Int)) : Prop := es.map (fun e => (e.key, e.val)) = L.map (fun x => (Value.int .i64 x.1, Value.int .i64 x.2))
theorem Ents.cons {e : MapEntry} {es : List MapEntry} {x : Int × Int} {L : List (Int × Int)} (h : Ents (e :: es) (x :: L)) : e.key = .int .i64 x.1 ∧ e.val = .int .i64 x.2 ∧ Ents es L := by
  simp only [Ents, List.map_cons, List.cons.injEq, Prod.mk.injEq] at h
  exact ⟨h.1.1, h.1.2, h.2⟩
theorem now_find : ∀ (es : List MapEntry) (L : List (Int × Int)) (q : Int) (i : Nat), Ents es L →
    Instr.findNow (.int .i64) (.int .i64 q) es i = some ((mfind L q i).map fun x => (x.1, Value.int .i64 x.2))
  | [], [], q, i, h => rfl
  | [], _ :: _, q, i, h => by simp [Ents] at h
  | _ :: _, [], q, i, h => by simp [Ents] at h
  | e :: es, (k, v) :: L, q, i, h => by
    obtain ⟨h1, h2, h3⟩ := h.cons
    unfold Instr.findNow
    rw [h1]
    by_cases hq : q = k
    · subst hq
      simp [Instr.sameNow, mfind, h2]
    · have hf : (q == k) = false := by simpa using hq
      simp [Instr.sameNow, mfind, hq, hf, now_find es L q (i + 1) h3]
theorem find_get : ∀ (L : List (Int × Int)) (q : Int) (i : Nat), (mfind L q i).map (·.2) = mget L q
  | [], q, i => rfl
  | (k, v) :: L, q, i => by
    by_cases hq : q = k <;> simp [mfind, mget, hq, find_get L q (i + 1)]
theorem find_none : ∀ (L : List (Int × Int)) (q : Int) (i : Nat), mfind L q i = none → (∀ n, mput L q n = L ++ [(q, n)]) ∧ mdel L q = L
  | [], q, i, _ => ⟨fun _ => rfl, rfl⟩
  | (k, v) :: L, q, i, h => by
    by_cases hq : q = k
    · simp [mfind, hq] at h
    · simp only [mfind, hq, if_false] at h
      have := find_none L q (i + 1) h
      simp [mput, mdel, hq, this]
theorem find_some : ∀ (L : List (Int × Int)) (q : Int) (i j : Nat) (v : Int), mfind L q i = some (j, v) →
    ∃ d, j = i + d ∧ L[d]? = some (q, v) ∧ (∀ n, mput L q n = L.modify d (fun _ => (q, n))) ∧ mdel L q = L.eraseIdx d
  | [], q, i, j, v, h => by simp [mfind] at h
  | (k, u) :: L, q, i, j, v, h => by
    by_cases hq : q = k
    · subst hq
      simp only [mfind, if_true, Option.some.injEq, Prod.mk.injEq] at h
      obtain ⟨rfl, rfl⟩ := h
      exact ⟨0, rfl, rfl, fun n => by simp [mput], by simp [mdel]⟩
    · simp only [mfind, hq, if_false] at h
      obtain ⟨d, rfl, h1, h2, h3⟩ := find_some L q (i + 1) j v h
      exact ⟨d + 1, by omega, by simpa using h1, fun n => by simp [mput, hq, h2], by simp [mdel, hq, h3]⟩
theorem Ents.at {es : List MapEntry} {L : List (Int × Int)} (h : Ents es L) {d : Nat} {x : Int × Int} (hx : L[d]? = some x) : ∃ e, es[d]? = some e ∧ e.key = .int .i64 x.1 := by
  have := congrArg (fun l => l[d]?) h
  simp only [List.getElem?_map, hx, Option.map_some] at this
  cases he : es[d]? with
  | none => simp [he] at this
  | some e =>
    simp only [he, Option.map_some, Option.some.injEq, Prod.mk.injEq] at this
    exact ⟨e, rfl, this.1⟩

def MapAt (w : World) (b : Nat) (L : List (Int × Int)) : Prop := ∃ es clock, w.heap[b]? = some (.map es clock) ∧ Ents es.toList L
theorem MapAt.lt {w : World} {b : Nat} {L : List (Int × Int)} (h : MapAt w b L) : b < w.heap.size := by
  obtain ⟨es, c, h, _⟩ := h
  exact (Array.getElem?_eq_some_iff.1 h).1
theorem MapAt.keep {w w' : World} {b : Nat} {L : List (Int × Int)} (h : MapAt w b L) (hk : w'.heap[b]? = w.heap[b]?) : MapAt w' b L := by
  obtain ⟨es, c, h, h2⟩ := h
  exact ⟨es, c, hk.trans h, h2⟩
theorem MapAt.below {w w' : World} {b : Nat} {L : List (Int × Int)} (h : MapAt w b L) (hb : Below w.heap.size w w') : MapAt w' b L := h.keep (hb.block b h.lt)
theorem MapAt.drewN {w : World} {b : Nat} {L : List (Int × Int)} (h : MapAt w b L) (n : Nat) : MapAt (w.drewN n) b L := h.keep rfl
theorem MapAt.onto {w w' : World} {b p : Nat} {L : List (Int × Int)} (h : MapAt w b L) (ho : Onto p w w') (hp : b ≠ p) : MapAt w' b L := h.keep (ho.block b hp h.lt)
theorem MapAt.new (w : World) : MapAt (w.alloc (.map #[] 0)) w.heap.size [] := ⟨#[], 0, heap_alloc_new _ _, rfl⟩
def setB (w : World) (b : Nat) (o : Obj) : World := { w with heap := w.heap.setIfInBounds b o }
theorem onto_setB (w : World) (b : Nat) (o : Obj) : Onto b w (setB w b o) :=
  ⟨rfl, rfl, rfl, by simp [setB], fun k hk _ => by simp [setB, Array.getElem?_setIfInBounds]; intro e; omega⟩
theorem size_setB (w : World) (b : Nat) (o : Obj) : (setB w b o).heap.size = w.heap.size := by simp [setB]
theorem setB_at {w : World} {b : Nat} (o : Obj) (hb : b < w.heap.size) : (setB w b o).heap[b]? = some o := by simp [setB, hb]
section
variable {P : Program} {w : World} {b : Nat} {L : List (Int × Int)} {t k e : TypeId}
theorem run_und {x : TypeId} {d : TypeDesc} (h : P.underlying x = some d) : (underlying x).run P w = .ok d w := by
  simp [underlying, h]
theorem run_check (hk : P.underlying k = some (.int .i64)) (q : Int) (em : Bool) : (Instr.checkKey em 10000 k (.int .i64 q)).run P w = .ok () w := by
  unfold Instr.checkKey
  simp [run_und hk]
theorem run_find (hk : P.underlying k = some (.int .i64)) {es : List MapEntry} (h : Ents es L) (q : Int) : (Instr.findKey k (.int .i64 q) es).run P w = .ok ((mfind L q 0).map fun x => (x.1, Value.int .i64 x.2)) w := by
  simp [Instr.findKey, run_und hk, now_find es L q 0 h]
theorem run_get (ht : P.underlying t = some (.map k e)) (hk : P.underlying k = some (.int .i64)) (hz : (zeroValue e).run P w = .ok (.int .i64 0) w) (h : MapAt w b L) (q : Int) :
    (Instr.lookup t (.map (some b)) (.int .i64 q) false).run P w = .ok (.int .i64 ((mget L q).getD 0)) w ∧
    (Instr.lookup t (.map (some b)) (.int .i64 q) true).run P w = .ok (.tuple #[.int .i64 ((mget L q).getD 0), .bool (mget L q).isSome]) w := by
  obtain ⟨es, c, hb, hE⟩ := h
  rw [← find_get L q 0]
  have hf := run_find (w := w) hk hE q
  cases hm : mfind L q 0 with
  | none =>
    rw [hm] at hf
    constructor <;> simp [Instr.lookup, run_und ht, MapKept.run_getObj_map hb, run_check hk, hf, hz, Result.andThen]
  | some x =>
    rw [hm] at hf
    constructor <;> simp [Instr.lookup, run_und ht, MapKept.run_getObj_map hb, run_check hk, hf, Result.andThen]
theorem stays (q : Int) : (Instr.keyThatStays (.int .i64 q) (.int .i64 q)).run P w = .ok (.int .i64 q) w := by
  simp [Instr.keyThatStays, Instr.sameBits]
theorem run_put (ht : P.underlying t = some (.map k e)) (hk : P.underlying k = some (.int .i64)) (h : MapAt w b L) (q n : Int) :
    ∃ w', (Instr.mapUpdate t (.map (some b)) (.int .i64 q) (.int .i64 n)).run P w = .ok () w' ∧ MapAt w' b (mput L q n) ∧ Onto b w w' ∧ w'.heap.size = w.heap.size := by
  have hlt := h.lt
  obtain ⟨es, c, hb, hE⟩ := h
  have hf := run_find (w := w) hk hE q
  cases hm : mfind L q 0 with
  | none =>
    rw [hm] at hf
    refine ⟨setB w b (.map (es.push { key := .int .i64 q, val := .int .i64 n, born := c }) (c + 1)), ?_, ⟨_, _, setB_at _ hlt, ?_⟩, onto_setB _ _ _, size_setB _ _ _⟩
    · simp [Instr.mapUpdate, run_und ht, MapKept.run_getObj_map hb, run_check hk, hf, MapKept.run_setObj_map _ hb, Result.andThen, setB]
    · rw [(find_none L q 0 hm).1]
      unfold Ents at hE ⊢
      simp [hE]
  | some x =>
    obtain ⟨j, v⟩ := x
    rw [hm] at hf
    obtain ⟨d, hj, h1, h2, _⟩ := find_some L q 0 j v hm
    obtain rfl : j = d := by omega
    obtain ⟨ent, he, hek⟩ := hE.at h1
    have he' : es[j]? = some ent := by rw [← Array.getElem?_toList]; exact he
    refine ⟨setB w b (.map (es.modify j fun y => { y with key := .int .i64 q, val := .int .i64 n }) c), ?_, ⟨_, _, setB_at _ hlt, ?_⟩, onto_setB _ _ _, size_setB _ _ _⟩
    · have hs := stays (P := P) (w := w) q
      simp only at hek
      simp [Instr.mapUpdate, run_und ht, MapKept.run_getObj_map hb, run_check hk, hf, he', hek, hs, MapKept.run_setObj_map _ hb, Result.andThen, setB]
    · rw [h2]
      unfold Ents at hE ⊢
      rw [Array.toList_modify]
      refine List.ext_getElem? fun i => ?_
      have hi := congrArg (fun l => l[i]?) hE
      simp only [List.getElem?_map, List.getElem?_modify] at hi ⊢
      by_cases hji : j = i
      · subst hji
        simp [he, h1]
      · simpa [hji] using hi
theorem run_del {ty : TypeId} (ht : P.underlying t = some (.map k e)) (hk : P.underlying k = some (.int .i64)) (h : MapAt w b L) (q : Int) :
    ∃ w', (Builtin.delete_ #[t, k] ty #[.map (some b), .int .i64 q]).run P w = .ok (.tuple #[]) w' ∧ MapAt w' b (mdel L q) ∧ Onto b w w' ∧ w'.heap.size = w.heap.size := by
  have hlt := h.lt
  obtain ⟨es, c, hb, hE⟩ := h
  have hf := run_find (w := w) hk hE q
  cases hm : mfind L q 0 with
  | none =>
    rw [hm] at hf
    refine ⟨setB w b (.map es c), ?_, ⟨_, _, setB_at _ hlt, ?_⟩, onto_setB _ _ _, size_setB _ _ _⟩
    · simp [Builtin.delete_, run_und ht, MapKept.run_getObj_map hb, run_check hk, hf, MapKept.run_setObj_map _ hb, Result.andThen, setB]
    · rw [(find_none L q 0 hm).2]; exact hE
  | some x =>
    obtain ⟨j, v⟩ := x
    rw [hm] at hf
    obtain ⟨d, hj, h1, _, h3⟩ := find_some L q 0 j v hm
    obtain rfl : j = d := by omega
    obtain ⟨ent, he, hek⟩ := hE.at h1
    have hjl : j < es.size := by
      have := (List.getElem?_eq_some_iff.1 he).1
      simpa using this
    refine ⟨setB w b (.map (es.eraseIdxIfInBounds j) c), ?_, ⟨_, _, setB_at _ hlt, ?_⟩, onto_setB _ _ _, size_setB _ _ _⟩
    · simp [Builtin.delete_, run_und ht, MapKept.run_getObj_map hb, run_check hk, hf, MapKept.run_setObj_map _ hb, Result.andThen, setB]
    · rw [h3]
      unfold Ents at hE ⊢
      unfold Array.eraseIdxIfInBounds
      rw [dif_pos hjl]
      simp only [Array.toList_eraseIdx]
      refine List.ext_getElem? fun i => ?_
      have hi := fun i : Nat => congrArg (fun l => l[i]?) hE
      simp only [List.getElem?_map] at hi
      simp only [List.getElem?_map, List.getElem?_eraseIdx]
      split <;> exact hi _
end
end Go.Proofs.YtghmkacamabndaaGreatDoor.Mp
namespace Go.Proofs.YtghmkacamabndaaGreatDoor.Reg
open Go.RowKit Base Mp Rw

def supOk (ops : Array Oper) (S : List (List Nat)) : Bool := (List.range ops.size).all fun j => (S.getD j []).all fun s => (List.range ops.size).all fun i =>
  (ops[i]?).bind (·.dst) != some s || i == j || (match ops[j]? with | some o => (deps o).contains i | none => true)
section
variable {ops : Array Oper} {T : Nat → (Nat → Value) → World → Prop} {R : Nat → World → World → Prop} {S : List (List Nat)}
theorem mono_sup (hS : supOk ops S = true) (hK : ∀ j f f' w, (∀ s ∈ S.getD j [], f' s = f s) → T j f w → T j f' w) (hR : ∀ i j f w w', i ≠ j → T j f w → R i w w' → T j f w') : Mono ops T R := by
  intro L i j oi oj f f' w w' hi hj hLi hLj hdep hf hT hRi
  have hne : i ≠ j := fun e => by rw [e, hLj] at hLi; cases hLi
  have hil : i < ops.size := by
    by_cases hl : i < ops.size
    · exact hl
    · have e : ops[i]? = none := by simp; omega
      rw [e] at hi; cases hi
  have hjl : j < ops.size := by
    by_cases hl : j < ops.size
    · exact hl
    · have e : ops[j]? = none := by simp; omega
      rw [e] at hj; cases hj
  refine hR i j f' w w' hne (hK j f f' w (fun s hs => hf s fun e => ?_) hT) hRi
  have h1 := List.all_eq_true.1 (List.all_eq_true.1 (List.all_eq_true.1 hS j (List.mem_range.2 hjl)) s hs) i (List.mem_range.2 hil)
  rw [hi, hj] at h1
  simp only [Option.bind_some, e, bne_self_eq_false, Bool.false_or, Bool.or_eq_true, beq_iff_eq] at h1
  rcases h1 with h1 | h1
  · exact hne h1
  · have := hdep i (List.contains_iff_mem.1 h1)
    rw [hLi] at this; cases this
end

structure Nice (L : List (Int × Int)) : Prop where
  one : (L.map Prod.fst).Nodup
  range : ∀ x v, mget L x = some v → 240 ≤ x ∧ x ≤ 248
theorem mput_keys : ∀ (L : List (Int × Int)) (q n x : Int), x ∈ (mput L q n).map Prod.fst ↔ x = q ∨ x ∈ L.map Prod.fst
  | [], q, n, x => by simp [mput]
  | (k, v) :: r, q, n, x => by
    by_cases h : q = k
    · subst h; simp [mput]
    · simp only [mput, h, if_false, List.map_cons, List.mem_cons, mput_keys r q n x]
      constructor
      · rintro (h | h | h) <;> simp [h]
      · rintro (h | h | h) <;> simp [h]
theorem mput_one : ∀ (L : List (Int × Int)) (q n : Int), (L.map Prod.fst).Nodup → ((mput L q n).map Prod.fst).Nodup
  | [], q, n, _ => by simp [mput]
  | (k, v) :: r, q, n, h => by
    by_cases hq : q = k
    · subst hq; simpa [mput] using h
    · simp only [List.map_cons, List.nodup_cons] at h
      simp only [mput, hq, if_false, List.map_cons, List.nodup_cons]
      refine ⟨fun hm => ?_, mput_one r q n h.2⟩
      rcases (mput_keys r q n k).1 hm with e | e
      · exact hq e.symm
      · exact h.1 e
theorem mget_none : ∀ (L : List (Int × Int)) (x : Int), x ∉ L.map Prod.fst → mget L x = none
  | [], x, _ => rfl
  | (k, v) :: r, x, h => by
    simp only [List.map_cons, List.mem_cons, not_or] at h
    simp [mget, h.1, mget_none r x h.2]
theorem mget_mdel : ∀ (L : List (Int × Int)) (q x : Int), (L.map Prod.fst).Nodup → mget (mdel L q) x = if x = q then none else mget L x
  | [], q, x, _ => by simp [mdel, mget]
  | (k, v) :: r, q, x, h => by
    simp only [List.map_cons, List.nodup_cons] at h
    by_cases hq : q = k
    · subst hq
      by_cases hx : x = q
      · subst hx; simp [mdel, mget_none r x h.1]
      · simp [mdel, mget, hx]
    · by_cases hx : x = k
      · subst hx
        have : ¬ x = q := fun e => hq e.symm
        simp [mdel, mget, hq, this]
      · simp [mdel, mget, hq, hx, mget_mdel r q x h.2]
theorem Nice.nil : Nice [] := ⟨by simp, fun x v h => by simp [mget] at h⟩
theorem Nice.put {L : List (Int × Int)} (h : Nice L) {q : Int} (n : Int) (hq : 240 ≤ q ∧ q ≤ 248) : Nice (mput L q n) :=
  ⟨mput_one L q n h.one, fun x v hx => by
    rw [mget_mput] at hx
    split at hx
    · omega
    · exact h.range x v hx⟩
theorem ents_one : ∀ (L L' : List (Int × Int)), L.map (fun x => (Value.int .i64 x.1, Value.int .i64 x.2)) = L'.map (fun x => (Value.int .i64 x.1, Value.int .i64 x.2)) → L = L'
  | [], [], _ => rfl
  | [], _ :: _, h => by simp at h
  | _ :: _, [], h => by simp at h
  | (a, b) :: L, (a', b') :: L', h => by
    simp only [List.map_cons, List.cons.injEq, Prod.mk.injEq, Value.int.injEq, true_and] at h
    obtain ⟨⟨rfl, rfl⟩, h⟩ := h
    rw [ents_one L L' h]
theorem mapAt_one {w : World} {b : Nat} {L L' : List (Int × Int)} (h : MapAt w b L) (h' : MapAt w b L') : L = L' := by
  obtain ⟨es, c, h1, h2⟩ := h
  obtain ⟨es', c', h1', h2'⟩ := h'
  rw [h1] at h1'
  simp only [Option.some.injEq, Obj.map.injEq] at h1'
  obtain ⟨rfl, rfl⟩ := h1'
  exact ents_one _ _ (h2.symm.trans h2')

abbrev Tk : Type := (Nat × Value) ⊕ Unit ⊕ (Int × Int) ⊕ (Nat × Nat)
def Tk.val (k : Nat) (v : Value) : Tk := .inl (k, v)
def Tk.new : Tk := .inr (.inl ())
def Tk.ins (q x : Int) : Tk := .inr (.inr (.inl (q, x)))
def Tk.same (k k' : Nat) : Tk := .inr (.inr (.inr (k, k')))
def Tk.says (g : Nat) (f : Nat → Value) (w : World) : Tk → Prop
  | .inl (k, v) => f k = v
  | .inr (.inl _) => ∃ b L, f 3 = .map (some b) ∧ g < b ∧ MapAt w b L ∧ Nice L
  | .inr (.inr (.inl (q, x))) => ∃ b L, f 3 = .map (some b) ∧ MapAt w b L ∧ Nice L ∧ mget L q = some x
  | .inr (.inr (.inr (k, k'))) => f k = f k'
def Tk.sup : Tk → List Nat
  | .inl (k, _) => [k]
  | .inr (.inl _) => [3]
  | .inr (.inr (.inl _)) => [3]
  | .inr (.inr (.inr (k, k'))) => [k, k']
def Tk.key : Tk → Int
  | .inr (.inr (.inl (q, _))) => q
  | _ => -1
def told (g : Nat) (l : List Tk) (j : Nat) (f : Nat → Value) (w : World) : Prop := match l[j]? with
  | some t => t.says g f w
  | none => True
def Rq (q : Int) (w w' : World) : Prop := ∀ b L, MapAt w b L → Nice L → ∃ L', MapAt w' b L' ∧ Nice L' ∧ ∀ x, x ≠ q → mget L' x = mget L x
theorem Rq.below {q : Int} {w w' : World} (h : Below w.heap.size w w') : Rq q w w' := fun b L hm hn => ⟨L, hm.below h, hn, fun _ _ => rfl⟩
theorem Rq.refl (q : Int) (w : World) : Rq q w w := fun b L hm hn => ⟨L, hm, hn, fun _ _ => rfl⟩
theorem Rq.put {q n : Int} {w w' : World} {b : Nat} {L : List (Int × Int)} (hm : MapAt w b L) (hm' : MapAt w' b (mput L q n)) (ho : Onto b w w') (hq : 240 ≤ q ∧ q ≤ 248) : Rq q w w' := fun b' L' hb' hn' => by
  by_cases e : b' = b
  · subst e
    obtain rfl := mapAt_one hm hb'
    exact ⟨_, hm', hn'.put n hq, fun x hx => by rw [mget_mput, if_neg hx]⟩
  · exact ⟨L', hb'.onto ho e, hn', fun _ _ => rfl⟩
def apart (l : List Int) : Bool := (List.range l.length).all fun i => (List.range l.length).all fun j => i == j || l.getD j (-1) == -1 || l.getD i (-1) != l.getD j (-1)
theorem told_mono {ops : Array Oper} {g : Nat} {l : List Tk} {ks : List Int} (hks : l.map Tk.key = ks) (hap : apart ks = true) (hS : supOk ops (l.map Tk.sup) = true) (hpos : ∀ q x, Tk.ins q x ∈ l → 240 ≤ q) (hlen : l.length = ops.size) :
    Mono ops (told g l) (fun i => Rq (ks.getD i (-1))) := by
  refine mono_sup hS (fun j f f' w hf hT => ?_) (fun i j f w w' hij hT hR => ?_)
  · unfold told at *
    cases e : l[j]? with
    | none => trivial
    | some t =>
      rw [e] at hT
      have hs : (l.map Tk.sup).getD j [] = t.sup := by simp [e]
      rw [hs] at hf
      rcases t with ⟨k, v⟩ | ⟨⟩ | ⟨q, x⟩ | ⟨k, k'⟩
      · exact (hf k (by simp [Tk.sup])).trans hT
      · obtain ⟨b, L, h1, h2⟩ := hT; exact ⟨b, L, (hf 3 (by simp [Tk.sup])).trans h1, h2⟩
      · obtain ⟨b, L, h1, h2⟩ := hT; exact ⟨b, L, (hf 3 (by simp [Tk.sup])).trans h1, h2⟩
      · exact ((hf k (by simp [Tk.sup])).trans hT).trans (hf k' (by simp [Tk.sup])).symm
  · unfold told at *
    cases e : l[j]? with
    | none => trivial
    | some t =>
      rw [e] at hT
      rcases t with ⟨k, v⟩ | ⟨⟩ | ⟨q, x⟩ | ⟨k, k'⟩
      · exact hT
      · obtain ⟨b, L, h1, h2, h3, h4⟩ := hT
        obtain ⟨L', m', n', _⟩ := hR b L h3 h4
        exact ⟨b, L', h1, h2, m', n'⟩
      · obtain ⟨b, L, h1, h3, h4, h5⟩ := hT
        obtain ⟨L', m', n', hx⟩ := hR b L h3 h4
        refine ⟨b, L', h1, m', n', ?_⟩
        rw [hx q, h5]
        have hj : ks.getD j (-1) = q := by rw [← hks]; simp [e, Tk.key]
        have hjl : j < ks.length := by
          rw [← hks, List.length_map]
          exact (List.getElem?_eq_some_iff.1 e).1
        have hq := hpos q x (List.mem_of_getElem? e)
        by_cases hil : i < ks.length
        · have h1 := List.all_eq_true.1 (List.all_eq_true.1 hap i (List.mem_range.2 hil)) j (List.mem_range.2 hjl)
          simp only [Bool.or_eq_true, beq_iff_eq, bne_iff_ne, hj] at h1
          rcases h1 with (h1 | h1) | h1
          · exact absurd h1 hij
          · omega
          · exact fun e => h1 e.symm
        · have : ks.getD i (-1) = -1 := by simp [List.getD_eq_getElem?_getD, List.getElem?_eq_none (by omega : ks.length ≤ i)]
          rw [this]; omega
      · exact hT
section
variable {P : Program} {Q : Exit → Act → World → Prop} {a : Act} {o : Oper} {w : World} {K : Act → World → Prop}
theorem makeMap_op {t : TypeId} (ho : o.op = .makeMap t none) (h : K (a.put o.dst (.map (some w.heap.size))) (w.alloc (.map #[] 0))) : o.wp P a w K Q := by
  have e : (Instr.makeMap t none).run P w = .ok (.map (some w.heap.size)) (w.alloc (.map #[] 0)) := rfl
  unfold Oper.wp execOp
  simp only [ho, Option.map_none, Sem.run_bind, Result.andThen_ok, e]
  exact h
theorem insert_op {t k e : TypeId} {m kx x : Operand} {b : Nat} {q n : Int} {L : List (Int × Int)} (ho : o.op = .insert t m kx x) (ht : P.underlying t = some (.map k e)) (hk : P.underlying k = some (.int .i64))
    (hm : a.eval m = .map (some b)) (hq : a.eval kx = .int .i64 q) (hx : a.eval x = .int .i64 n) (hM : MapAt w b L)
    (h : ∀ w', MapAt w' b (mput L q n) → Onto b w w' → K (a.put o.dst undef) w') : o.wp P a w K Q := by
  obtain ⟨w', hr, h1, h2, h3⟩ := run_put (P := P) ht hk hM q n
  unfold Oper.wp execOp
  simp only [ho, hm, hq, hx, Sem.run_bind, Result.andThen_ok, hr]
  exact h _ h1 h2
end
end Go.Proofs.YtghmkacamabndaaGreatDoor.Reg
namespace Go.Proofs.YtghmkacamabndaaGreatDoor.Reg
open Go.RowKit Base

def MonoF (ops : Array Oper) (T : Nat → (Nat → Value) → World → Prop) (R : Nat → (Nat → Value) → World → World → Prop) : Prop :=
  ∀ (L : Nat → Bool) (i j : Nat) (oi oj : Oper) (f f' : Nat → Value) (w w' : World), ops[i]? = some oi → ops[j]? = some oj → L i = false → L j = true → (∀ d ∈ deps oj, L d = true) →
    (∀ k, oi.dst ≠ some k → f' k = f k) → T j f w → R i f' w w' → T j f' w'

section
variable {P : Program} {ops : Array Oper} {Q : Exit → Act → World → Prop} {G : World → Prop} {T : Nat → (Nat → Value) → World → Prop} {R : Nat → (Nat → Value) → World → World → Prop} {a0 a : Act} {L : Nat → Bool} {w w' : World} {i : Nat} {o : Oper} {v : Value}
theorem InvG.nextF (h : InvG ops G T a0 L a w) (mono : MonoF ops T R) (ho : ops[i]? = some o) (hL : L i = false)
    (hr : ∀ d ∈ deps o, L d = true) (hT : T i (at_ (a.put o.dst v)) w') (hG : G w') (hR : R i (at_ (a.put o.dst v)) w w') : InvG ops G T a0 (fun j => L j || j == i) (a.put o.dst v) w' where
  g := hG
  defers := (put_defers _ _ _).trans h.defers
  size := (put_size _ _ _).trans h.size
  told := fun j oj hj hl => by
    by_cases hji : j = i
    · subst hji; exact hT
    · have hl' : L j = true := by simpa [hji] using hl
      exact mono L i j o oj (at_ a) _ w w' ho hj hL hl' (fun d hd => h.closed j oj d hj hl' hd) (fun k hk => getD_put _ _ _ _ hk) (h.told j oj hj hl') hR
  rest := fun k hk => by
    have hne : o.dst ≠ some k := fun e => hk i (by simp) (by rw [ho]; exact e)
    rw [getD_put _ _ _ _ hne]
    exact h.rest k (fun j hj => hk j (by simp [hj]))
  closed := fun j o' d hj hl hd' => by
    by_cases e : j = i
    · subst e
      rw [ho] at hj; cases hj
      simp [hr d hd']
    · have hl' : L j = true := by simpa [e] using hl
      simp [h.closed j o' d hj hl' hd']
theorem any_genF (hac : acyc ops = true) (mono : MonoF ops T R)
    (step : ∀ (L : Nat → Bool) (i : Nat) (o : Oper) (a : Act) (w : World), ops[i]? = some o → InvG ops G T a0 L a w → L i = false → (∀ d ∈ deps o, L d = true) →
      wpOp P ops Q i (fun a' w' => ∃ v, a' = a.put o.dst v ∧ T i (at_ (a.put o.dst v)) w' ∧ G w' ∧ R i (at_ (a.put o.dst v)) w w') a w)
    (done : ∀ a w, InvG ops G T a0 (fun _ => true) a w → Q .normal a w) :
    ∀ (fuel : Nat) (listed : Array Bool) (a : Act) (w : World), listed.size = ops.size → left ops.size listed ≤ fuel → InvG ops G T a0 (fun j => listed.getD j false) a w → wpAny P .any ops Q fuel listed a w := by
  have fin : ∀ (listed : Array Bool) (a : Act) (w : World), listed.size = ops.size → Region.ready .any ops listed = [] → InvG ops G T a0 (fun j => listed.getD j false) a w → Q .normal a w := fun listed a w hs hr hI => by
    refine done a w ?_
    have hall := all_listed hac hr hs
    have hL : ∀ j o, ops[j]? = some o → listed.getD j false = true := fun j o hj => by
      have hjs : j < ops.size := by
        by_cases hl : j < ops.size
        · exact hl
        · have e : ops[j]? = none := by simp; omega
          rw [e] at hj; cases hj
      have := hall j hjs
      have hjl : j < listed.size := by omega
      simpa [Array.getD_eq_getD_getElem?, Array.getElem?_eq_getElem hjl] using this
    exact ⟨hI.g, hI.defers, hI.size, fun j o hj _ => hI.told j o hj (hL j o hj), fun k hk => hI.rest k (fun j hj => hk j rfl), fun _ _ _ _ _ _ => rfl⟩
  intro fuel
  induction fuel with
  | zero =>
    intro listed a w hs hf hI
    have hr : Region.ready .any ops listed = [] := by
      refine List.eq_nil_iff_forall_not_mem.2 fun i hi => ?_
      obtain ⟨h1, h2, _⟩ := mem_ready.1 hi
      have h0 : left ops.size listed = 0 := by omega
      have := (List.countP_eq_zero.1 h0) i (List.mem_range.2 h1)
      simp [h2] at this
    exact ⟨hr, fin listed a w hs hr hI⟩
  | succ fuel ih =>
    intro listed a w hs hf hI
    refine ⟨fun hr => fin listed a w hs hr hI, fun i hi => ?_⟩
    obtain ⟨h1, h2, o, ho, h3⟩ := mem_ready.1 hi
    have hil : i < listed.size := by omega
    have hLi : listed.getD i false = false := by
      simpa [Array.getD_eq_getD_getElem?, Array.getElem?_eq_getElem hil] using h2
    refine wpOp_mono ?_ (step (fun j => listed.getD j false) i o a w ho hI hLi h3)
    rintro a' w' ⟨v, rfl, hT, hG, hR⟩
    refine ih _ _ _ (by simpa using hs) ?_ ?_
    · have hlt : left ops.size (listed.setIfInBounds i true) < left ops.size listed := by
        refine countP_lt (x := i) (fun x hx => ?_) (List.mem_range.2 h1) (by simp [h2]) ?_
        · by_cases hxi : x = i
          · subst hxi; simp [h2]
          · simpa [Array.getD_eq_getD_getElem?, Array.getElem?_setIfInBounds, Ne.symm hxi] using hx
        · simp [Array.getD_eq_getD_getElem?, hil]
      omega
    · have hI' := hI.nextF mono ho hLi h3 hT hG hR
      have e : (fun j => (listed.setIfInBounds i true).getD j false) = fun j => listed.getD j false || j == i := by
        funext j
        by_cases hj : j = i
        · subst hj; simp [Array.getD_eq_getD_getElem?, hil]
        · simp [Array.getD_eq_getD_getElem?, Ne.symm hj, hj]
      rw [e]
      exact hI'
theorem region_genF {id : Nat} (hm : P.follows .mixedOrders = true) (hac : acyc ops = true) (G : World → Prop) (T : Nat → (Nat → Value) → World → Prop) (R : Nat → (Nat → Value) → World → World → Prop)
    (mono : MonoF ops T R) (hG : G w.drew)
    (step : ∀ (L : Nat → Bool) (i : Nat) (o : Oper) (a : Act) (w : World), ops[i]? = some o → InvG ops G T a0 L a w → L i = false → (∀ d ∈ deps o, L d = true) →
      wpOp P ops Q i (fun a' w' => ∃ v, a' = a.put o.dst v ∧ T i (at_ (a.put o.dst v)) w' ∧ G w' ∧ R i (at_ (a.put o.dst v)) w w') a w)
    (done : ∀ a w, InvG ops G T a0 (fun _ => true) a w → Q .normal a w) : (Code.region id ops true).wp P Q a0 w := by
  have no : ∀ j, (Array.replicate ops.size false).getD j false = true → False := fun j hl => by
    by_cases hj : j < ops.size
    · simp [Array.getD_eq_getD_getElem?, hj] at hl
    · simp [Array.getD_eq_getD_getElem?, hj] at hl
  exact wp_region_any hm (any_genF hac mono step done ops.size _ a0 w.drew (by simp) (by
    refine Nat.le_trans List.countP_le_length ?_
    simp) ⟨hG, rfl, rfl, fun j o _ hl => (no j hl).elim, fun _ _ => rfl, fun j o d _ hl _ => (no j hl).elim⟩)
end
end Go.Proofs.YtghmkacamabndaaGreatDoor.Reg
namespace Go.Proofs.YtghmkacamabndaaGreatDoor.Reg
open Go.RowKit Base

structure InvS (ops : Array Oper) (s : Nat) (G : Bool → World → Prop) (T : Nat → (Nat → Value) → World → Prop) (a0 : Act) (L : Nat → Bool) (a : Act) (w : World) : Prop where
  g : G (L s) w
  defers : a.defers = a0.defers
  size : a.tmps.size = a0.tmps.size
  told : ∀ j o, ops[j]? = some o → L j = true → T j (at_ a) w
  rest : ∀ k, (∀ j, L j = true → (ops[j]?).bind (·.dst) ≠ some k) → a.tmps.getD k undef = a0.tmps.getD k undef
  closed : ∀ j o d, ops[j]? = some o → L j = true → d ∈ deps o → L d = true
section
variable {P : Program} {ops : Array Oper} {Q : Exit → Act → World → Prop} {s : Nat} {G : Bool → World → Prop} {T : Nat → (Nat → Value) → World → Prop} {R : Nat → (Nat → Value) → World → World → Prop} {a0 a : Act} {L : Nat → Bool} {w w' : World} {i : Nat} {o : Oper} {v : Value}
theorem InvS.nextS (h : InvS ops s G T a0 L a w) (mono : MonoF ops T R) (ho : ops[i]? = some o) (hL : L i = false)
    (hr : ∀ d ∈ deps o, L d = true) (hT : T i (at_ (a.put o.dst v)) w') (hG : G (L s || s == i) w') (hR : R i (at_ (a.put o.dst v)) w w') : InvS ops s G T a0 (fun j => L j || j == i) (a.put o.dst v) w' where
  g := hG
  defers := (put_defers _ _ _).trans h.defers
  size := (put_size _ _ _).trans h.size
  told := fun j oj hj hl => by
    by_cases hji : j = i
    · subst hji; exact hT
    · have hl' : L j = true := by simpa [hji] using hl
      exact mono L i j o oj (at_ a) _ w w' ho hj hL hl' (fun d hd => h.closed j oj d hj hl' hd) (fun k hk => getD_put _ _ _ _ hk) (h.told j oj hj hl') hR
  rest := fun k hk => by
    have hne : o.dst ≠ some k := fun e => hk i (by simp) (by rw [ho]; exact e)
    rw [getD_put _ _ _ _ hne]
    exact h.rest k (fun j hj => hk j (by simp [hj]))
  closed := fun j o' d hj hl hd' => by
    by_cases e : j = i
    · subst e
      rw [ho] at hj; cases hj
      simp [hr d hd']
    · have hl' : L j = true := by simpa [e] using hl
      simp [h.closed j o' d hj hl' hd']
theorem any_genS (hss : s < ops.size) (hac : acyc ops = true) (mono : MonoF ops T R)
    (step : ∀ (L : Nat → Bool) (i : Nat) (o : Oper) (a : Act) (w : World), ops[i]? = some o → InvS ops s G T a0 L a w → L i = false → (∀ d ∈ deps o, L d = true) →
      wpOp P ops Q i (fun a' w' => ∃ v, a' = a.put o.dst v ∧ T i (at_ (a.put o.dst v)) w' ∧ G (L s || s == i) w' ∧ R i (at_ (a.put o.dst v)) w w') a w)
    (done : ∀ a w, InvS ops s G T a0 (fun _ => true) a w → Q .normal a w) :
    ∀ (fuel : Nat) (listed : Array Bool) (a : Act) (w : World), listed.size = ops.size → left ops.size listed ≤ fuel → InvS ops s G T a0 (fun j => listed.getD j false) a w → wpAny P .any ops Q fuel listed a w := by
  have fin : ∀ (listed : Array Bool) (a : Act) (w : World), listed.size = ops.size → Region.ready .any ops listed = [] → InvS ops s G T a0 (fun j => listed.getD j false) a w → Q .normal a w := fun listed a w hs hr hI => by
    refine done a w ?_
    have hall := all_listed hac hr hs
    have hL : ∀ j o, ops[j]? = some o → listed.getD j false = true := fun j o hj => by
      have hjs : j < ops.size := by
        by_cases hl : j < ops.size
        · exact hl
        · have e : ops[j]? = none := by simp; omega
          rw [e] at hj; cases hj
      have := hall j hjs
      have hjl : j < listed.size := by omega
      simpa [Array.getD_eq_getD_getElem?, Array.getElem?_eq_getElem hjl] using this
    have hg1 : G true w := by
      have hall' := hall s hss
      have h1 := hI.g
      have hjl : s < listed.size := by omega
      have e : listed.getD s false = true := by simpa [Array.getD_eq_getD_getElem?, Array.getElem?_eq_getElem hjl] using hall'
      rw [e] at h1; exact h1
    exact ⟨hg1, hI.defers, hI.size, fun j o hj _ => hI.told j o hj (hL j o hj), fun k hk => hI.rest k (fun j hj => hk j rfl), fun _ _ _ _ _ _ => rfl⟩
  intro fuel
  induction fuel with
  | zero =>
    intro listed a w hs hf hI
    have hr : Region.ready .any ops listed = [] := by
      refine List.eq_nil_iff_forall_not_mem.2 fun i hi => ?_
      obtain ⟨h1, h2, _⟩ := mem_ready.1 hi
      have h0 : left ops.size listed = 0 := by omega
      have := (List.countP_eq_zero.1 h0) i (List.mem_range.2 h1)
      simp [h2] at this
    exact ⟨hr, fin listed a w hs hr hI⟩
  | succ fuel ih =>
    intro listed a w hs hf hI
    refine ⟨fun hr => fin listed a w hs hr hI, fun i hi => ?_⟩
    obtain ⟨h1, h2, o, ho, h3⟩ := mem_ready.1 hi
    have hil : i < listed.size := by omega
    have hLi : listed.getD i false = false := by
      simpa [Array.getD_eq_getD_getElem?, Array.getElem?_eq_getElem hil] using h2
    refine wpOp_mono ?_ (step (fun j => listed.getD j false) i o a w ho hI hLi h3)
    rintro a' w' ⟨v, rfl, hT, hG, hR⟩
    refine ih _ _ _ (by simpa using hs) ?_ ?_
    · have hlt : left ops.size (listed.setIfInBounds i true) < left ops.size listed := by
        refine countP_lt (x := i) (fun x hx => ?_) (List.mem_range.2 h1) (by simp [h2]) ?_
        · by_cases hxi : x = i
          · subst hxi; simp [h2]
          · simpa [Array.getD_eq_getD_getElem?, Array.getElem?_setIfInBounds, Ne.symm hxi] using hx
        · simp [Array.getD_eq_getD_getElem?, hil]
      omega
    · have hI' := hI.nextS mono ho hLi h3 hT hG hR
      have e : (fun j => (listed.setIfInBounds i true).getD j false) = fun j => listed.getD j false || j == i := by
        funext j
        by_cases hj : j = i
        · subst hj; simp [Array.getD_eq_getD_getElem?, hil]
        · simp [Array.getD_eq_getD_getElem?, Ne.symm hj, hj]
      rw [e]
      exact hI'
theorem region_genS {id : Nat} (hm : P.follows .mixedOrders = true) (hac : acyc ops = true) (s : Nat) (hss : s < ops.size) (G : Bool → World → Prop) (T : Nat → (Nat → Value) → World → Prop) (R : Nat → (Nat → Value) → World → World → Prop)
    (mono : MonoF ops T R) (hG : G false w.drew)
    (step : ∀ (L : Nat → Bool) (i : Nat) (o : Oper) (a : Act) (w : World), ops[i]? = some o → InvS ops s G T a0 L a w → L i = false → (∀ d ∈ deps o, L d = true) →
      wpOp P ops Q i (fun a' w' => ∃ v, a' = a.put o.dst v ∧ T i (at_ (a.put o.dst v)) w' ∧ G (L s || s == i) w' ∧ R i (at_ (a.put o.dst v)) w w') a w)
    (done : ∀ a w, InvS ops s G T a0 (fun _ => true) a w → Q .normal a w) : (Code.region id ops true).wp P Q a0 w := by
  have no : ∀ j, (Array.replicate ops.size false).getD j false = true → False := fun j hl => by
    by_cases hj : j < ops.size
    · simp [Array.getD_eq_getD_getElem?, hj] at hl
    · simp [Array.getD_eq_getD_getElem?, hj] at hl
  have hg0 : G ((Array.replicate ops.size false).getD s false) w.drew := by
    have e : (Array.replicate ops.size false).getD s false = false := by simp [Array.getD_eq_getD_getElem?, hss]
    rw [e]; exact hG
  exact wp_region_any hm (any_genS hss hac mono step done ops.size _ a0 w.drew (by simp) (by
    refine Nat.le_trans List.countP_le_length ?_
    simp) ⟨hg0, rfl, rfl, fun j o _ hl => (no j hl).elim, fun _ _ => rfl, fun j o d _ hl _ => (no j hl).elim⟩)
theorem InvS.get (h : InvS ops s G T a0 L a w) (hr : ∀ d ∈ deps o, L d = true) (j : Nat) {oj : Oper} (hj : ops[j]? = some oj) (hd : (deps o).contains j = true) : T j (at_ a) w :=
  h.told j oj hj (hr j (by simpa using hd))
theorem InvS.old (h : InvS ops s G T a0 L a w) (k : Nat) (hk : (ops.all fun o => o.dst != some k) = true) : a.tmps.getD k undef = a0.tmps.getD k undef :=
  h.rest k fun j _ e => by
    cases hj : ops[j]? with
    | none => simp [hj] at e
    | some o =>
      have h1 := (Array.all_eq_true_iff_forall_mem.1 hk) o (Array.mem_of_getElem? hj)
      simp [hj] at e
      simp [e] at h1
end
end Go.Proofs.YtghmkacamabndaaGreatDoor.Reg
namespace Go.Proofs.YtghmkacamabndaaGreatDoor.Reg
open Go.RowKit Base

def wider (ops : Array Oper) : Nat → List Nat → List Nat
  | 0, l => l
  | n + 1, l => wider ops n ((List.range ops.size).filter fun i => l.contains i || l.any fun j => match ops[j]? with
    | some o => (deps o).contains i
    | none => false)
def waitsAll (ops : Array Oper) (s : Nat) : Bool := (List.range ops.size).all fun i => (wider ops ops.size [s]).contains i
theorem wider_listed {ops : Array Oper} {L : Nat → Bool} (h : ∀ j o d, ops[j]? = some o → L j = true → d ∈ deps o → L d = true) : ∀ (n : Nat) (l : List Nat), (∀ i ∈ l, L i = true) → ∀ i ∈ wider ops n l, L i = true
  | 0, l, hl, i, hi => hl i hi
  | n + 1, l, hl, i, hi => by
    refine wider_listed h n _ (fun j hj => ?_) i hi
    rw [List.mem_filter] at hj
    have h2 := hj.2
    rw [Bool.or_eq_true] at h2
    rcases h2 with h2 | h2
    · exact hl j (List.contains_iff_mem.1 h2)
    · obtain ⟨x, hx, hd⟩ := List.any_eq_true.1 h2
      cases hq : ops[x]? with
      | none => simp [hq] at hd
      | some o =>
        simp only [hq] at hd
        exact h x o j hq (hl x hx) (List.contains_iff_mem.1 hd)
def knownT (ops : Array Oper) (vals : List Value) (j : Nat) (f : Nat → Value) (W : World) : Prop := ∀ k, (ops[j]?).bind (·.dst) = some k → f k = vals.getD j undef
section
variable {P : Program} {ops : Array Oper} {Q : Exit → Act → World → Prop} {s : Nat} {a0 a : Act} {L : Nat → Bool} {w w' : World} {i : Nat} {o : Oper} {v : Value} {vals : List Value}
theorem mono_known {n : Nat} (hds : dstOk ops n = true) : MonoF ops (knownT ops vals) (fun _ _ _ _ => True) := by
  intro L i j oi oj f f' w w' hi hj hLi hLj _ hf hT _ k hk
  rw [hf k (fun e => ?_)]
  · exact hT k hk
  · have : i = j := dst_one hds (by rw [hi]; exact e) hk
    rw [this, hLj] at hLi; cases hLi
theorem region_known {id : Nat} (hm : P.follows .mixedOrders = true) (hac : acyc ops = true) (s : Nat) (hss : s < ops.size) (hds : dstOk ops a0.tmps.size = true) (G : Bool → World → Prop) (vals : List Value) (hG : G false w.drew)
    (step : ∀ (L : Nat → Bool) (i : Nat) (o : Oper) (a : Act) (w : World), ops[i]? = some o → InvS ops s G (knownT ops vals) a0 L a w → L i = false → (∀ d ∈ deps o, L d = true) →
      wpOp P ops Q i (fun a' w' => ∃ v, a' = a.put o.dst v ∧ v = vals.getD i undef ∧ G (L s || s == i) w') a w)
    (done : ∀ a w, InvS ops s G (knownT ops vals) a0 (fun _ => true) a w → Q .normal a w) : (Code.region id ops true).wp P Q a0 w := by
  refine region_genS hm hac s hss G (knownT ops vals) (fun _ _ _ _ => True) (mono_known hds) hG ?_ done
  intro L i o a w hi hI hL hd
  refine wpOp_mono ?_ (step L i o a w hi hI hL hd)
  rintro a' w' ⟨v, rfl, hv, hg⟩
  refine ⟨v, rfl, fun k hk => ?_, hg, trivial⟩
  rw [hi] at hk
  have hk' : o.dst = some k := hk
  have hlt : k < a0.tmps.size := dst_lt hds (i := i) (by rw [hi]; exact hk')
  rw [hk']
  show (a.put (some k) v).tmps.getD k undef = _
  rw [getD_put_same _ _ _ (by rw [hI.size]; exact hlt)]
  exact hv
theorem InvS.val {G : Bool → World → Prop} (h : InvS ops s G (knownT ops vals) a0 L a w) (hr : ∀ d ∈ deps o, L d = true) (j k : Nat) {oj : Oper} (hj : ops[j]? = some oj) (hk : oj.dst = some k) (hd : (deps o).contains j = true) : a.eval (.tmp k) = vals.getD j undef :=
  (h.get hr j hj hd) k (by rw [hj]; exact hk)
theorem InvS.last {G : Bool → World → Prop} (h : InvS ops s G (knownT ops vals) a0 (fun _ => true) a w) (j k : Nat) (hj : (ops[j]?).bind (·.dst) = some k) : a.tmps.getD k undef = vals.getD j undef := by
  cases hq : ops[j]? with
  | none => simp [hq] at hj
  | some oj => exact (h.told j oj hq rfl) k hj
def ge (G E : World → Prop) (b : Bool) (W : World) : Prop := if b = true then E W else G W
theorem region_last {id : Nat} (hm : P.follows .mixedOrders = true) (hac : acyc ops = true) (s : Nat) (hss : s < ops.size) (hall : waitsAll ops s = true) (hds : dstOk ops a0.tmps.size = true) (G E : World → Prop) (vals : List Value) (hG : G w.drew)
    (step : ∀ (L : Nat → Bool) (i : Nat) (o : Oper) (a : Act) (w : World), i ≠ s → ops[i]? = some o → InvS ops s (ge G E) (knownT ops vals) a0 L a w → G w → (∀ d ∈ deps o, L d = true) →
      wpOp P ops Q i (fun a' w' => ∃ v, a' = a.put o.dst v ∧ v = vals.getD i undef ∧ G w') a w)
    (last : ∀ (L : Nat → Bool) (o : Oper) (a : Act) (w : World), ops[s]? = some o → InvS ops s (ge G E) (knownT ops vals) a0 L a w → G w → (∀ d ∈ deps o, L d = true) →
      wpOp P ops Q s (fun a' w' => ∃ v, a' = a.put o.dst v ∧ v = vals.getD s undef ∧ E w') a w)
    (done : ∀ a w, InvS ops s (ge G E) (knownT ops vals) a0 (fun _ => true) a w → E w → Q .normal a w) : (Code.region id ops true).wp P Q a0 w := by
  refine region_known hm hac s hss hds (ge G E) vals (by simpa [ge] using hG) ?_ (fun a w hI => done a w hI (by simpa [ge] using hI.g))
  intro L i o a w hi hI hL hd
  have hil : i < ops.size := by
    by_cases hl : i < ops.size
    · exact hl
    · have e : ops[i]? = none := by simp; omega
      rw [e] at hi; cases hi
  have hLs : L s = false := by
    cases hq : L s with
    | false => rfl
    | true =>
      have h1 := List.all_eq_true.1 hall i (List.mem_range.2 hil)
      have := wider_listed (L := L) hI.closed ops.size [s] (fun j hj => by simp at hj; rw [hj]; exact hq) i (List.contains_iff_mem.1 h1)
      rw [this] at hL; cases hL
  have hg : G w := by have := hI.g; simpa [ge, hLs] using this
  by_cases e : i = s
  · subst e
    refine wpOp_mono ?_ (last L o a w hi hI hg hd)
    rintro a' w' ⟨v, rfl, hv, he⟩
    exact ⟨v, rfl, hv, by simpa [ge] using he⟩
  · refine wpOp_mono ?_ (step L i o a w e hi hI hg hd)
    rintro a' w' ⟨v, rfl, hv, he⟩
    exact ⟨v, rfl, hv, by simpa [ge, hLs, Ne.symm e] using he⟩
theorem nil_op {x : Operand} {K : Act → World → Prop} {ad : Addr} (ho : o.op = .nilCheck x) (hx : a.eval x = .pointer (some ad)) (h : K (a.put o.dst (.pointer (some ad))) w) : o.wp P a w K Q := by
  refine val_op ?_ h
  unfold execOp
  simp only [ho, hx]
  simp [go_sem]
end
def putAll (f : Nat → Value) (ks : List Nat) (t : Array Value) : Array Value := ks.foldl (fun t k => t.setIfInBounds k (f k)) t
theorem putAll_size (f : Nat → Value) : ∀ (ks : List Nat) (t : Array Value), (putAll f ks t).size = t.size
  | [], t => rfl
  | k :: ks, t => (putAll_size f ks _).trans (by simp)
theorem putAll_get (f : Nat → Value) : ∀ (ks : List Nat) (t : Array Value) (k : Nat), k < t.size → (putAll f ks t).getD k undef = if k ∈ ks then f k else t.getD k undef
  | [], t, k, _ => by simp [putAll]
  | j :: ks, t, k, hk => by
    have ih := putAll_get f ks (t.setIfInBounds j (f j)) k (by simpa using hk)
    have e : putAll f (j :: ks) t = putAll f ks (t.setIfInBounds j (f j)) := rfl
    rw [e, ih]
    by_cases hm : k ∈ ks
    · simp [hm]
    · by_cases hj : k = j
      · subst hj
        simp [hm, Array.getD_eq_getD_getElem?, hk]
      · have hj' : ¬ j = k := fun e => hj e.symm
        simp [hm, hj, hj', Array.getD_eq_getD_getElem?]
theorem frame_of {A a0 : Act} {ks : List Nat} (hs : A.tmps.size = a0.tmps.size) (hd : A.defers = a0.defers) (hr : ∀ k, k ∉ ks → A.tmps.getD k undef = a0.tmps.getD k undef) : A = ⟨putAll (fun k => A.tmps.getD k undef) ks a0.tmps, a0.defers⟩ := by
  obtain ⟨t, d⟩ := A
  simp only at hs hd hr
  subst hd
  congr 1
  apply Array.ext_getElem?
  intro k
  by_cases hk : k < t.size
  · have h1 := putAll_get (fun k => t.getD k undef) ks a0.tmps k (by omega)
    have h2 : (putAll (fun k => t.getD k undef) ks a0.tmps).getD k undef = t.getD k undef := by
      rw [h1]
      by_cases hm : k ∈ ks
      · simp [hm]
      · rw [if_neg hm]; exact (hr k hm).symm
    have hp : k < (putAll (fun k => t.getD k undef) ks a0.tmps).size := by rw [putAll_size]; omega
    rw [Array.getD_eq_getD_getElem?, Array.getD_eq_getD_getElem?, Array.getElem?_eq_getElem hp, Array.getElem?_eq_getElem hk] at h2
    rw [Array.getElem?_eq_getElem hp, Array.getElem?_eq_getElem hk]
    exact congrArg some h2.symm
  · have e1 : t[k]? = none := by simp; omega
    have e2 : (putAll (fun k => t.getD k undef) ks a0.tmps)[k]? = none := by simp [putAll_size]; omega
    rw [e1, e2]
section
variable {ops : Array Oper} {G : World → Prop} {T : Nat → Value → World → Prop} {T' : Nat → (Nat → Value) → World → Prop} {a0 a : Act} {L : Nat → Bool} {w : World}
def dsts (ops : Array Oper) (ks : List Nat) : Bool := ops.all fun o => match o.dst with | some k => ks.contains k | none => true
theorem dsts_not {ks : List Nat} (h : dsts ops ks = true) {k : Nat} (hk : k ∉ ks) (j : Nat) : (ops[j]?).bind (·.dst) ≠ some k := fun e => by
  cases hj : ops[j]? with
  | none => simp [hj] at e
  | some o =>
    have h1 := (Array.all_eq_true_iff_forall_mem.1 h) o (Array.mem_of_getElem? hj)
    simp [hj] at e
    rw [e] at h1
    exact hk (by simpa using h1)
theorem Inv.frame (h : Inv ops G T a0 L a w) (ks : List Nat) (hks : dsts ops ks = true) : a = ⟨putAll (fun k => a.tmps.getD k undef) ks a0.tmps, a0.defers⟩ :=
  frame_of h.size h.defers fun k hk => h.rest k fun j _ => dsts_not hks hk j
theorem InvG.frame (h : InvG ops G T' a0 L a w) (ks : List Nat) (hks : dsts ops ks = true) : a = ⟨putAll (fun k => a.tmps.getD k undef) ks a0.tmps, a0.defers⟩ :=
  frame_of h.size h.defers fun k hk => h.rest k fun j _ => dsts_not hks hk j
end
section
variable {ops : Array Oper} {s : Nat} {G : Bool → World → Prop} {T : Nat → (Nat → Value) → World → Prop} {a0 a : Act} {L : Nat → Bool} {w : World}
theorem InvS.frame (h : InvS ops s G T a0 L a w) (ks : List Nat) (hks : dsts ops ks = true) : a = ⟨putAll (fun k => a.tmps.getD k undef) ks a0.tmps, a0.defers⟩ :=
  frame_of h.size h.defers fun k hk => h.rest k fun j _ => dsts_not hks hk j
end
end Go.Proofs.YtghmkacamabndaaGreatDoor.Reg
namespace Go.Proofs.YtghmkacamabndaaGreatDoor.Reg
open Go.RowKit Base

end Go.Proofs.YtghmkacamabndaaGreatDoor.Reg
