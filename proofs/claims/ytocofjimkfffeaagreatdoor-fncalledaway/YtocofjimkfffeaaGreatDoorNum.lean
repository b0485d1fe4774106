/-
  What chapter 1's functions answer, of the program and of its model: byte numbers, their sums, differences and turns, for every int64.
-/
import Derived.Test.YtocofjimkfffeaaGreatDoorRows
import Derived.WalkKit
import Derived.WalkLawsBesides
namespace Go.Proofs.YtocofjimkfffeaaGreatDoor.Num
open Go.ChangeShapes Go.WideShapes Go.RowKit
set_option linter.unusedVariables false

def bok (n : Int) : Bool := decide (0 ≤ n) && decide (n ≤ 255)
theorem bok_true {n : Int} (h : bok n = true) : 0 ≤ n ∧ n ≤ 255 := by simpa [bok] using h
theorem bok_false {n : Int} (h : bok n = false) : n < 0 ∨ 255 < n := by
  simp only [bok, Bool.and_eq_false_iff, decide_eq_false_iff_not] at h; omega
theorem bok_mk {n : Int} (h0 : 0 ≤ n) (h1 : n ≤ 255) : bok n = true := by simp [bok, h0, h1]

theorem byteOk_impl (n : Int) (w : World) :
    Calls Tryz.prog 48 #[.int .i64 n] w fun e w' => e = .returned (.bool (bok n)) ∧ w' = w := by
  by_cases h0 : 0 ≤ n
  · by_cases h1 : n ≤ 255
    · have hb : bok n = true := bok_mk h0 h1
      rw [hb]
      go_enter Tryz.func48, Tryz.ntmps48
      go_wp2
      go_ret
      exact ⟨rfl, rfl⟩
    · have hb : bok n = false := by simp [bok, h0, h1]
      rw [hb]
      go_enter Tryz.func48, Tryz.ntmps48
      go_wp2
      go_ret
      exact ⟨rfl, rfl⟩
  · have hb : bok n = false := by simp [bok, h0]
    rw [hb]
    go_enter Tryz.func48, Tryz.ntmps48
    go_wp2
    go_ret
    exact ⟨rfl, rfl⟩

theorem byteOk_spec (n : Int) (w : World) :
    Calls Tryz.prog 40 #[.int .i64 n] w fun e w' => e = .returned (.bool (bok n)) ∧ w' = w := by
  by_cases h0 : 0 ≤ n
  · by_cases h1 : n ≤ 255
    · have hb : bok n = true := bok_mk h0 h1
      rw [hb]
      go_enter Tryz.func40, Tryz.ntmps40
      go_wp2
      go_ret
      exact ⟨rfl, rfl⟩
    · have hb : bok n = false := by simp [bok, h0, h1]
      rw [hb]
      go_enter Tryz.func40, Tryz.ntmps40
      go_wp2
      go_ret
      exact ⟨rfl, rfl⟩
  · have hb : bok n = false := by simp [bok, h0]
    rw [hb]
    go_enter Tryz.func40, Tryz.ntmps40
    go_wp2
    go_ret
    exact ⟨rfl, rfl⟩

def addB (a b : Int) : Int := if bok a && bok b then (a + b) % 256 else 0
def addC (a b : Int) : Bool := bok a && bok b && decide (255 < a + b)

theorem addByte_spec (a b : Int) (w : World) :
    Calls Tryz.prog 149 #[.int .i64 a, .int .i64 b] w fun e w' => e = .returned (.tuple #[.int .i64 (addB a b), .bool (addC a b)]) ∧ w' = w := by
  by_cases ha : bok a = true
  · by_cases hb : bok b = true
    · have hA := bok_true ha
      have hB := bok_true hb
      have e1 : addB a b = (a + b) % 256 := by simp [addB, ha, hb]
      have e2 : addC a b = decide (255 < a + b) := by simp [addC, ha, hb]
      rw [e1, e2]
      go_enter Tryz.func149, Tryz.ntmps149
      go_wp2_with (go_at_call 40; refine (byteOk_spec _ _).mono ?_; rintro e w' ⟨rfl, rfl⟩)
      go_ret2
      exact ⟨rfl, rfl⟩
    · have hb' : bok b = false := by simpa using hb
      have e1 : addB a b = 0 := by simp [addB, hb']
      have e2 : addC a b = false := by simp [addC, hb']
      rw [e1, e2]
      go_enter Tryz.func149, Tryz.ntmps149
      go_wp2_with (go_at_call 40; refine (byteOk_spec _ _).mono ?_; rintro e w' ⟨rfl, rfl⟩)
      go_ret2
      exact ⟨rfl, rfl⟩
  · have ha' : bok a = false := by simpa using ha
    have e1 : addB a b = 0 := by simp [addB, ha']
    have e2 : addC a b = false := by simp [addC, ha']
    rw [e1, e2]
    go_enter Tryz.func149, Tryz.ntmps149
    go_wp2_with (go_at_call 40; refine (byteOk_spec _ _).mono ?_; rintro e w' ⟨rfl, rfl⟩)
    go_ret2
    exact ⟨rfl, rfl⟩

theorem plus_any (a b : Int) (w : World) (hA : 0 ≤ a ∧ a ≤ 255) (hB : 0 ≤ b ∧ b ≤ 255) :
    Calls Tryz.prog 132 #[.int .u8 a, .int .u8 b] w fun e w' => e = .returned (.tuple #[.int .u8 ((a + b) % 256), .bool (decide (255 < a + b))]) ∧ w' = w := by
  rw [show decide (255 < a + b) = decide ((a + b) % 256 < a) from decide_eq_decide.mpr (by omega)]
  go_enter Tryz.func132, Tryz.ntmps132
  go_wp2
  go_ret2
  exact ⟨rfl, rfl⟩
theorem joined_plus (a b : Int) (w : World) (hA : 0 ≤ a ∧ a ≤ 255) (hB : 0 ≤ b ∧ b ≤ 255) :
    Calls Tryz.prog 131 #[.func (Fn.func 132) #[.int .u8 a] #[], .int .u8 b] w fun e w' => e = .returned (.tuple #[.int .i64 ((a + b) % 256), .bool (decide (255 < a + b))]) ∧ w' = w := by
  go_enter Tryz.func131, Tryz.ntmps131
  go_wp2_with (go_at_call 132; refine (plus_any _ _ _ (by omega) (by omega)).mono ?_; rintro e w' ⟨rfl, rfl⟩)
  go_ret2
  exact ⟨rfl, rfl⟩
theorem addByte_impl (a b : Int) (w : World) :
    Calls Tryz.prog 67 #[.int .i64 a, .int .i64 b] w fun e w' => e = .returned (.tuple #[.int .i64 (addB a b), .bool (addC a b)]) ∧ w' = w := by
  by_cases ha : bok a = true
  · by_cases hb : bok b = true
    · have hA := bok_true ha
      have hB := bok_true hb
      have e1 : addB a b = (a + b) % 256 := by simp [addB, ha, hb]
      have e2 : addC a b = decide (255 < a + b) := by simp [addC, ha, hb]
      rw [e1, e2]
      go_enter Tryz.func67, Tryz.ntmps67
      go_wp2_with (first | (go_at_call 48; refine (byteOk_impl _ _).mono ?_; rintro e w' ⟨rfl, rfl⟩) | (go_at_call 131; refine (joined_plus _ _ _ hA hB).mono ?_; rintro e w' ⟨rfl, rfl⟩))
      go_ret2
      exact ⟨rfl, rfl⟩
    · have hb' : bok b = false := by simpa using hb
      have e1 : addB a b = 0 := by simp [addB, hb']
      have e2 : addC a b = false := by simp [addC, hb']
      rw [e1, e2]
      go_enter Tryz.func67, Tryz.ntmps67
      go_wp2_with (go_at_call 48; refine (byteOk_impl _ _).mono ?_; rintro e w' ⟨rfl, rfl⟩)
      go_ret2
      exact ⟨rfl, rfl⟩
  · have ha' : bok a = false := by simpa using ha
    have e1 : addB a b = 0 := by simp [addB, ha']
    have e2 : addC a b = false := by simp [addC, ha']
    rw [e1, e2]
    go_enter Tryz.func67, Tryz.ntmps67
    go_wp2_with (go_at_call 48; refine (byteOk_impl _ _).mono ?_; rintro e w' ⟨rfl, rfl⟩)
    go_ret2
    exact ⟨rfl, rfl⟩
def subB (a b : Int) : Int := if bok a && bok b then (a - b) % 256 else 0
def subC (a b : Int) : Bool := bok a && bok b && decide (a < b)

theorem subByte_spec (a b : Int) (w : World) :
    Calls Tryz.prog 150 #[.int .i64 a, .int .i64 b] w fun e w' => e = .returned (.tuple #[.int .i64 (subB a b), .bool (subC a b)]) ∧ w' = w := by
  by_cases ha : bok a = true
  · by_cases hb : bok b = true
    · have hA := bok_true ha
      have hB := bok_true hb
      have e1 : subB a b = (a - b + 256) % 256 := by simp [subB, ha, hb]
      have e2 : subC a b = decide (a < b) := by simp [subC, ha, hb]
      rw [e1, e2]
      go_enter Tryz.func150, Tryz.ntmps150
      go_wp2_with (go_at_call 40; refine (byteOk_spec _ _).mono ?_; rintro e w' ⟨rfl, rfl⟩)
      go_ret2
      exact ⟨rfl, rfl⟩
    · have hb' : bok b = false := by simpa using hb
      have e1 : subB a b = 0 := by simp [subB, hb']
      have e2 : subC a b = false := by simp [subC, hb']
      rw [e1, e2]
      go_enter Tryz.func150, Tryz.ntmps150
      go_wp2_with (go_at_call 40; refine (byteOk_spec _ _).mono ?_; rintro e w' ⟨rfl, rfl⟩)
      go_ret2
      exact ⟨rfl, rfl⟩
  · have ha' : bok a = false := by simpa using ha
    have e1 : subB a b = 0 := by simp [subB, ha']
    have e2 : subC a b = false := by simp [subC, ha']
    rw [e1, e2]
    go_enter Tryz.func150, Tryz.ntmps150
    go_wp2_with (go_at_call 40; refine (byteOk_spec _ _).mono ?_; rintro e w' ⟨rfl, rfl⟩)
    go_ret2
    exact ⟨rfl, rfl⟩

theorem minus_any (a b : Int) (w : World) (hA : 0 ≤ a ∧ a ≤ 255) (hB : 0 ≤ b ∧ b ≤ 255) :
    Calls Tryz.prog 134 #[.int .u8 a, .int .u8 b] w fun e w' => e = .returned (.tuple #[.int .u8 ((a - b) % 256), .bool (decide (a < b))]) ∧ w' = w := by
  go_enter Tryz.func134, Tryz.ntmps134
  go_wp2
  go_ret2
  exact ⟨rfl, rfl⟩
theorem joined_minus (a b : Int) (w : World) (hA : 0 ≤ a ∧ a ≤ 255) (hB : 0 ≤ b ∧ b ≤ 255) :
    Calls Tryz.prog 131 #[.func (Fn.func 134) #[.int .u8 a] #[], .int .u8 b] w fun e w' => e = .returned (.tuple #[.int .i64 ((a - b) % 256), .bool (decide (a < b))]) ∧ w' = w := by
  go_enter Tryz.func131, Tryz.ntmps131
  go_wp2_with (go_at_call 134; refine (minus_any _ _ _ (by omega) (by omega)).mono ?_; rintro e w' ⟨rfl, rfl⟩)
  go_ret2
  exact ⟨rfl, rfl⟩
theorem subByte_impl (a b : Int) (w : World) :
    Calls Tryz.prog 82 #[.int .i64 a, .int .i64 b] w fun e w' => e = .returned (.tuple #[.int .i64 (subB a b), .bool (subC a b)]) ∧ w' = w := by
  by_cases ha : bok a = true
  · by_cases hb : bok b = true
    · have hA := bok_true ha
      have hB := bok_true hb
      have e1 : subB a b = (a - b) % 256 := by simp [subB, ha, hb]
      have e2 : subC a b = decide (a < b) := by simp [subC, ha, hb]
      rw [e1, e2]
      go_enter Tryz.func82, Tryz.ntmps82
      go_wp2_with (first | (go_at_call 48; refine (byteOk_impl _ _).mono ?_; rintro e w' ⟨rfl, rfl⟩) | (go_at_call 131; refine (joined_minus _ _ _ hA hB).mono ?_; rintro e w' ⟨rfl, rfl⟩))
      go_ret2
      exact ⟨rfl, rfl⟩
    · have hb' : bok b = false := by simpa using hb
      have e1 : subB a b = 0 := by simp [subB, hb']
      have e2 : subC a b = false := by simp [subC, hb']
      rw [e1, e2]
      go_enter Tryz.func82, Tryz.ntmps82
      go_wp2_with (go_at_call 48; refine (byteOk_impl _ _).mono ?_; rintro e w' ⟨rfl, rfl⟩)
      go_ret2
      exact ⟨rfl, rfl⟩
  · have ha' : bok a = false := by simpa using ha
    have e1 : subB a b = 0 := by simp [subB, ha']
    have e2 : subC a b = false := by simp [subC, ha']
    rw [e1, e2]
    go_enter Tryz.func82, Tryz.ntmps82
    go_wp2_with (go_at_call 48; refine (byteOk_impl _ _).mono ?_; rintro e w' ⟨rfl, rfl⟩)
    go_ret2
    exact ⟨rfl, rfl⟩

def turnLB (a : Int) : Int := if bok a then 2 * a % 256 + a / 128 else 0
def turnLC (a : Int) : Bool := bok a && decide (127 < a)
def turnRB (a : Int) : Int := if bok a then a / 2 + 128 * (a % 2) else 0
def turnRC (a : Int) : Bool := bok a && (a % 2 == 1)

theorem turnedLeft_spec (a : Int) (w : World) :
    Calls Tryz.prog 151 #[.int .i64 a] w fun e w' => e = .returned (.tuple #[.int .i64 (turnLB a), .bool (turnLC a)]) ∧ w' = w := by
  by_cases ha : bok a = true
  · have hA := bok_true ha
    have e1 : turnLB a = 2 * a % 256 + a / 128 := by simp [turnLB, ha]
    have e2 : turnLC a = decide (127 < a) := by simp [turnLC, ha]
    rw [e1, e2]
    go_enter Tryz.func151, Tryz.ntmps151
    go_wp2_with (go_at_call 40; refine (byteOk_spec _ _).mono ?_; rintro e w' ⟨rfl, rfl⟩)
    go_ret2
    exact ⟨rfl, rfl⟩
  · have ha' : bok a = false := by simpa using ha
    have e1 : turnLB a = 0 := by simp [turnLB, ha']
    have e2 : turnLC a = false := by simp [turnLC, ha']
    rw [e1, e2]
    go_enter Tryz.func151, Tryz.ntmps151
    go_wp2_with (go_at_call 40; refine (byteOk_spec _ _).mono ?_; rintro e w' ⟨rfl, rfl⟩)
    go_ret2
    exact ⟨rfl, rfl⟩

theorem turnedRight_spec (a : Int) (w : World) :
    Calls Tryz.prog 152 #[.int .i64 a] w fun e w' => e = .returned (.tuple #[.int .i64 (turnRB a), .bool (turnRC a)]) ∧ w' = w := by
  by_cases ha : bok a = true
  · have hA := bok_true ha
    have e1 : turnRB a = a / 2 + 128 * (a % 2) := by simp [turnRB, ha]
    have e2 : turnRC a = (a % 2 == 1) := by simp [turnRC, ha]
    rw [e1, e2]
    go_enter Tryz.func152, Tryz.ntmps152
    go_wp2_with (go_at_call 40; refine (byteOk_spec _ _).mono ?_; rintro e w' ⟨rfl, rfl⟩)
    go_ret2
    exact ⟨rfl, rfl⟩
  · have ha' : bok a = false := by simpa using ha
    have e1 : turnRB a = 0 := by simp [turnRB, ha']
    have e2 : turnRC a = false := by simp [turnRC, ha']
    rw [e1, e2]
    go_enter Tryz.func152, Tryz.ntmps152
    go_wp2_with (go_at_call 40; refine (byteOk_spec _ _).mono ?_; rintro e w' ⟨rfl, rfl⟩)
    go_ret2
    exact ⟨rfl, rfl⟩

theorem or_left {a : Int} (hA : 0 ≤ a ∧ a ≤ 255) : bits BinOp.or IntKind.u8 (a * 2 % 256) (a / 128) = 2 * a % 256 + a / 128 := by
  have key : ∀ n : Fin 256, bits BinOp.or IntKind.u8 ((n.val : Int) * 2 % 256) ((n.val : Int) / 128) = 2 * (n.val : Int) % 256 + (n.val : Int) / 128 := by decide +kernel
  have h := key ⟨a.toNat, by omega⟩
  have e : ((a.toNat : Nat) : Int) = a := by omega
  simpa only [e] using h
theorem or_right {a : Int} (hA : 0 ≤ a ∧ a ≤ 255) : bits BinOp.or IntKind.u8 (a / 2) (a * 128 % 256) = a / 2 + 128 * (a % 2) := by
  have key : ∀ n : Fin 256, bits BinOp.or IntKind.u8 ((n.val : Int) / 2) ((n.val : Int) * 128 % 256) = (n.val : Int) / 2 + 128 * ((n.val : Int) % 2) := by decide +kernel
  have h := key ⟨a.toNat, by omega⟩
  have e : ((a.toNat : Nat) : Int) = a := by omega
  simpa only [e] using h
theorem left_any (a : Int) (w : World) (hA : 0 ≤ a ∧ a ≤ 255) :
    Calls Tryz.prog 136 #[.int .u8 a] w fun e w' => e = .returned (.tuple #[.int .u8 (2 * a % 256 + a / 128), .bool (decide (127 < a))]) ∧ w' = w := by
  rw [← or_left hA]
  go_enter Tryz.func136, Tryz.ntmps136
  go_wp2
  go_ret2
  exact ⟨rfl, rfl⟩
theorem right_any (a : Int) (w : World) (hA : 0 ≤ a ∧ a ≤ 255) :
    Calls Tryz.prog 137 #[.int .u8 a] w fun e w' => e = .returned (.tuple #[.int .u8 (a / 2 + 128 * (a % 2)), .bool (a % 2 == 1)]) ∧ w' = w := by
  rw [← or_right hA]
  go_enter Tryz.func137, Tryz.ntmps137
  go_wp2
  go_ret2
  exact ⟨rfl, rfl⟩
theorem turned_left (a : Int) (w : World) (hA : 0 ≤ a ∧ a ≤ 255) :
    Calls Tryz.prog 135 #[.func (Fn.func 136) #[.int .u8 a] #[]] w fun e w' => e = .returned (.tuple #[.int .i64 (2 * a % 256 + a / 128), .bool (decide (127 < a))]) ∧ w' = w := by
  go_enter Tryz.func135, Tryz.ntmps135
  go_wp2_with (go_at_call 136; refine (left_any _ _ hA).mono ?_; rintro e w' ⟨rfl, rfl⟩)
  go_ret2
  exact ⟨rfl, rfl⟩
theorem turned_right (a : Int) (w : World) (hA : 0 ≤ a ∧ a ≤ 255) :
    Calls Tryz.prog 135 #[.func (Fn.func 137) #[.int .u8 a] #[]] w fun e w' => e = .returned (.tuple #[.int .i64 (a / 2 + 128 * (a % 2)), .bool (a % 2 == 1)]) ∧ w' = w := by
  go_enter Tryz.func135, Tryz.ntmps135
  go_wp2_with (go_at_call 137; refine (right_any _ _ hA).mono ?_; rintro e w' ⟨rfl, rfl⟩)
  go_ret2
  exact ⟨rfl, rfl⟩
theorem turnedLeft_impl (a : Int) (w : World) :
    Calls Tryz.prog 88 #[.int .i64 a] w fun e w' => e = .returned (.tuple #[.int .i64 (turnLB a), .bool (turnLC a)]) ∧ w' = w := by
  by_cases ha : bok a = true
  · have hA := bok_true ha
    have e1 : turnLB a = 2 * a % 256 + a / 128 := by simp [turnLB, ha]
    have e2 : turnLC a = decide (127 < a) := by simp [turnLC, ha]
    rw [e1, e2]
    go_enter Tryz.func88, Tryz.ntmps88
    go_wp2_with (first | (go_at_call 48; refine (byteOk_impl _ _).mono ?_; rintro e w' ⟨rfl, rfl⟩) | (go_at_call 135; refine (turned_left _ _ hA).mono ?_; rintro e w' ⟨rfl, rfl⟩))
    go_ret2
    exact ⟨rfl, rfl⟩
  · have ha' : bok a = false := by simpa using ha
    have e1 : turnLB a = 0 := by simp [turnLB, ha']
    have e2 : turnLC a = false := by simp [turnLC, ha']
    rw [e1, e2]
    go_enter Tryz.func88, Tryz.ntmps88
    go_wp2_with (go_at_call 48; refine (byteOk_impl _ _).mono ?_; rintro e w' ⟨rfl, rfl⟩)
    go_ret2
    exact ⟨rfl, rfl⟩
theorem turnedRight_impl (a : Int) (w : World) :
    Calls Tryz.prog 90 #[.int .i64 a] w fun e w' => e = .returned (.tuple #[.int .i64 (turnRB a), .bool (turnRC a)]) ∧ w' = w := by
  by_cases ha : bok a = true
  · have hA := bok_true ha
    have e1 : turnRB a = a / 2 + 128 * (a % 2) := by simp [turnRB, ha]
    have e2 : turnRC a = (a % 2 == 1) := by simp [turnRC, ha]
    rw [e1, e2]
    go_enter Tryz.func90, Tryz.ntmps90
    go_wp2_with (first | (go_at_call 48; refine (byteOk_impl _ _).mono ?_; rintro e w' ⟨rfl, rfl⟩) | (go_at_call 135; refine (turned_right _ _ hA).mono ?_; rintro e w' ⟨rfl, rfl⟩))
    go_ret2
    exact ⟨rfl, rfl⟩
  · have ha' : bok a = false := by simpa using ha
    have e1 : turnRB a = 0 := by simp [turnRB, ha']
    have e2 : turnRC a = false := by simp [turnRC, ha']
    rw [e1, e2]
    go_enter Tryz.func90, Tryz.ntmps90
    go_wp2_with (go_at_call 48; refine (byteOk_impl _ _).mono ?_; rintro e w' ⟨rfl, rfl⟩)
    go_ret2
    exact ⟨rfl, rfl⟩
end Go.Proofs.YtocofjimkfffeaaGreatDoor.Num
