/-
  What FnSteps leans on: part 1.
-/
import Derived.Test.YtamldhflkfbdnaaGreatDoorRows
import Derived.WalkKit
import Derived.WalkLawsBesides
import Derived.OpenShut
import Derived.OwnWalk
import Derived.Laws.OwnMore
import Derived.Laws.AppendOwnNone
import Derived.Laws.ResultCell
import Derived.Laws.Tables
import Derived.Laws.Rows
import Derived.Deep.MidRow
import Derived.Deep.QuietTactic
import Derived.BigQuiet
import Derived.BigFrame
import Derived.BigCall
import Derived.Great.BuildSlice
set_option linter.unusedVariables false
set_option linter.unusedSimpArgs false
set_option maxRecDepth 20000
namespace Go.Proofs.YtamldhflkfbdnaaGreatDoor.Num
open Go.ChangeShapes Go.WideShapes Go.RowKit

def bok (n : Int) : Bool := decide (0 ≤ n) && decide (n ≤ 255)
theorem xG {n : Int} (h : bok n = true) : 0 ≤ n ∧ n ≤ 255 := by simpa [bok] using h
theorem zIt {n : Int} (h0 : 0 ≤ n) (h1 : n ≤ 255) : bok n = true := by simp [bok, h0, h1]

theorem qL (n : Int) (w : World) :
  Calls Tryz.prog 84 #[.int .i64 n] w fun e w' => e = .returned (.bool (bok n)) ∧ w' = w := by
 by_cases h0 : 0 ≤ n
 ·by_cases h1 : n ≤ 255
  ·have hb : bok n = true := zIt h0 h1
   rw [hb]
   go_enter Tryz.func84, Tryz.ntmps84
   go_wp2
   go_ret
   exact ⟨rfl, rfl⟩
  ·have hb : bok n = false := by simp [bok, h0, h1]
   rw [hb]
   go_enter Tryz.func84, Tryz.ntmps84
   go_wp2
   go_ret
   exact ⟨rfl, rfl⟩
 ·have hb : bok n = false := by simp [bok, h0]
  rw [hb]
  go_enter Tryz.func84, Tryz.ntmps84
  go_wp2
  go_ret
  exact ⟨rfl, rfl⟩

theorem xB (n : Int) (w : World) :
  Calls Tryz.prog 146 #[.int .i64 n] w fun e w' => e = .returned (.bool (bok n)) ∧ w' = w := by
 by_cases h0 : 0 ≤ n
 ·by_cases h1 : n ≤ 255
  ·have hb : bok n = true := zIt h0 h1
   rw [hb]
   go_enter Tryz.func146, Tryz.ntmps146
   go_wp2
   go_ret
   exact ⟨rfl, rfl⟩
  ·have hb : bok n = false := by simp [bok, h0, h1]
   rw [hb]
   go_enter Tryz.func146, Tryz.ntmps146
   go_wp2
   go_ret
   exact ⟨rfl, rfl⟩
 ·have hb : bok n = false := by simp [bok, h0]
  rw [hb]
  go_enter Tryz.func146, Tryz.ntmps146
  go_wp2
  go_ret
  exact ⟨rfl, rfl⟩

def addB (a b : Int) : Int := if bok a && bok b then (a + b) % 256 else 0
def addC (a b : Int) : Bool := bok a && bok b && decide (255 < a + b)

theorem zDk (a b : Int) (w : World) :
  Calls Tryz.prog 312 #[.int .i64 a, .int .i64 b] w fun e w' => e = .returned (.tuple #[.int .i64 (addB a b), .bool (addC a b)]) ∧ w' = w := by
 by_cases ha : bok a = true
 ·by_cases hb : bok b = true
  ·have hA := xG ha
   have hB := xG hb
   have e1 : addB a b = (a + b) % 256 := by simp [addB, ha, hb]
   have e2 : addC a b = decide (255 < a + b) := by simp [addC, ha, hb]
   rw [e1, e2]
   go_enter Tryz.func312, Tryz.ntmps312
   go_wp2_with (go_at_call 146; refine (xB _ _).mono ?_; rintro e w' ⟨rfl, rfl⟩)
   go_ret2
   exact ⟨rfl, rfl⟩
  ·have hb' : bok b = false := by simpa using hb
   have e1 : addB a b = 0 := by simp [addB, hb']
   have e2 : addC a b = false := by simp [addC, hb']
   rw [e1, e2]
   go_enter Tryz.func312, Tryz.ntmps312
   go_wp2_with (go_at_call 146; refine (xB _ _).mono ?_; rintro e w' ⟨rfl, rfl⟩)
   go_ret2
   exact ⟨rfl, rfl⟩
 ·have ha' : bok a = false := by simpa using ha
  have e1 : addB a b = 0 := by simp [addB, ha']
  have e2 : addC a b = false := by simp [addC, ha']
  rw [e1, e2]
  go_enter Tryz.func312, Tryz.ntmps312
  go_wp2_with (go_at_call 146; refine (xB _ _).mono ?_; rintro e w' ⟨rfl, rfl⟩)
  go_ret2
  exact ⟨rfl, rfl⟩

theorem zQ4 (a b : Int) (w : World) (hA : 0 ≤ a ∧ a ≤ 255) (hB : 0 ≤ b ∧ b ≤ 255) :
  Calls Tryz.prog 304 #[.int .u8 a, .int .u8 b] w fun e w' => e = .returned (.tuple #[.int .u8 ((a + b) % 256), .bool (decide (255 < a + b))]) ∧ w' = w := by
 rw [show decide (255 < a + b) = decide ((a + b) % 256 < a) from decide_eq_decide.mpr (by omega)]
 go_enter Tryz.func304, Tryz.ntmps304
 go_wp2
 go_ret2
 exact ⟨rfl, rfl⟩
theorem zMh (a b : Int) (w : World) (hA : 0 ≤ a ∧ a ≤ 255) (hB : 0 ≤ b ∧ b ≤ 255) :
  Calls Tryz.prog 303 #[.func (Fn.func 304) #[.int .u8 a] #[], .int .u8 b] w fun e w' => e = .returned (.tuple #[.int .i64 ((a + b) % 256), .bool (decide (255 < a + b))]) ∧ w' = w := by
 go_enter Tryz.func303, Tryz.ntmps303
 go_wp2_with (go_at_call 304; refine (zQ4 _ _ _ (by omega) (by omega)).mono ?_; rintro e w' ⟨rfl, rfl⟩)
 go_ret2
 exact ⟨rfl, rfl⟩
theorem zAk (a b : Int) (w : World) :
  Calls Tryz.prog 246 #[.int .i64 a, .int .i64 b] w fun e w' => e = .returned (.tuple #[.int .i64 (addB a b), .bool (addC a b)]) ∧ w' = w := by
 by_cases ha : bok a = true
 ·by_cases hb : bok b = true
  ·have hA := xG ha
   have hB := xG hb
   have e1 : addB a b = (a + b) % 256 := by simp [addB, ha, hb]
   have e2 : addC a b = decide (255 < a + b) := by simp [addC, ha, hb]
   rw [e1, e2]
   go_enter Tryz.func246, Tryz.ntmps246
   go_wp2_with (first | (go_at_call 84; refine (qL _ _).mono ?_; rintro e w' ⟨rfl, rfl⟩) | (go_at_call 303; refine (zMh _ _ _ hA hB).mono ?_; rintro e w' ⟨rfl, rfl⟩))
   go_ret2
   exact ⟨rfl, rfl⟩
  ·have hb' : bok b = false := by simpa using hb
   have e1 : addB a b = 0 := by simp [addB, hb']
   have e2 : addC a b = false := by simp [addC, hb']
   rw [e1, e2]
   go_enter Tryz.func246, Tryz.ntmps246
   go_wp2_with (go_at_call 84; refine (qL _ _).mono ?_; rintro e w' ⟨rfl, rfl⟩)
   go_ret2
   exact ⟨rfl, rfl⟩
 ·have ha' : bok a = false := by simpa using ha
  have e1 : addB a b = 0 := by simp [addB, ha']
  have e2 : addC a b = false := by simp [addC, ha']
  rw [e1, e2]
  go_enter Tryz.func246, Tryz.ntmps246
  go_wp2_with (go_at_call 84; refine (qL _ _).mono ?_; rintro e w' ⟨rfl, rfl⟩)
  go_ret2
  exact ⟨rfl, rfl⟩
def subB (a b : Int) : Int := if bok a && bok b then (a - b) % 256 else 0
def subC (a b : Int) : Bool := bok a && bok b && decide (a < b)

theorem zDc (a b : Int) (w : World) :
  Calls Tryz.prog 313 #[.int .i64 a, .int .i64 b] w fun e w' => e = .returned (.tuple #[.int .i64 (subB a b), .bool (subC a b)]) ∧ w' = w := by
 by_cases ha : bok a = true
 ·by_cases hb : bok b = true
  ·have hA := xG ha
   have hB := xG hb
   have e1 : subB a b = (a - b + 256) % 256 := by simp [subB, ha, hb]
   have e2 : subC a b = decide (a < b) := by simp [subC, ha, hb]
   rw [e1, e2]
   go_enter Tryz.func313, Tryz.ntmps313
   go_wp2_with (go_at_call 146; refine (xB _ _).mono ?_; rintro e w' ⟨rfl, rfl⟩)
   go_ret2
   exact ⟨rfl, rfl⟩
  ·have hb' : bok b = false := by simpa using hb
   have e1 : subB a b = 0 := by simp [subB, hb']
   have e2 : subC a b = false := by simp [subC, hb']
   rw [e1, e2]
   go_enter Tryz.func313, Tryz.ntmps313
   go_wp2_with (go_at_call 146; refine (xB _ _).mono ?_; rintro e w' ⟨rfl, rfl⟩)
   go_ret2
   exact ⟨rfl, rfl⟩
 ·have ha' : bok a = false := by simpa using ha
  have e1 : subB a b = 0 := by simp [subB, ha']
  have e2 : subC a b = false := by simp [subC, ha']
  rw [e1, e2]
  go_enter Tryz.func313, Tryz.ntmps313
  go_wp2_with (go_at_call 146; refine (xB _ _).mono ?_; rintro e w' ⟨rfl, rfl⟩)
  go_ret2
  exact ⟨rfl, rfl⟩

theorem zO5 (a b : Int) (w : World) (hA : 0 ≤ a ∧ a ≤ 255) (hB : 0 ≤ b ∧ b ≤ 255) :
  Calls Tryz.prog 306 #[.int .u8 a, .int .u8 b] w fun e w' => e = .returned (.tuple #[.int .u8 ((a - b) % 256), .bool (decide (a < b))]) ∧ w' = w := by
 go_enter Tryz.func306, Tryz.ntmps306
 go_wp2
 go_ret2
 exact ⟨rfl, rfl⟩
theorem zKu (a b : Int) (w : World) (hA : 0 ≤ a ∧ a ≤ 255) (hB : 0 ≤ b ∧ b ≤ 255) :
  Calls Tryz.prog 303 #[.func (Fn.func 306) #[.int .u8 a] #[], .int .u8 b] w fun e w' => e = .returned (.tuple #[.int .i64 ((a - b) % 256), .bool (decide (a < b))]) ∧ w' = w := by
 go_enter Tryz.func303, Tryz.ntmps303
 go_wp2_with (go_at_call 306; refine (zO5 _ _ _ (by omega) (by omega)).mono ?_; rintro e w' ⟨rfl, rfl⟩)
 go_ret2
 exact ⟨rfl, rfl⟩
theorem zA5 (a b : Int) (w : World) :
  Calls Tryz.prog 261 #[.int .i64 a, .int .i64 b] w fun e w' => e = .returned (.tuple #[.int .i64 (subB a b), .bool (subC a b)]) ∧ w' = w := by
 by_cases ha : bok a = true
 ·by_cases hb : bok b = true
  ·have hA := xG ha
   have hB := xG hb
   have e1 : subB a b = (a - b) % 256 := by simp [subB, ha, hb]
   have e2 : subC a b = decide (a < b) := by simp [subC, ha, hb]
   rw [e1, e2]
   go_enter Tryz.func261, Tryz.ntmps261
   go_wp2_with (first | (go_at_call 84; refine (qL _ _).mono ?_; rintro e w' ⟨rfl, rfl⟩) | (go_at_call 303; refine (zKu _ _ _ hA hB).mono ?_; rintro e w' ⟨rfl, rfl⟩))
   go_ret2
   exact ⟨rfl, rfl⟩
  ·have hb' : bok b = false := by simpa using hb
   have e1 : subB a b = 0 := by simp [subB, hb']
   have e2 : subC a b = false := by simp [subC, hb']
   rw [e1, e2]
   go_enter Tryz.func261, Tryz.ntmps261
   go_wp2_with (go_at_call 84; refine (qL _ _).mono ?_; rintro e w' ⟨rfl, rfl⟩)
   go_ret2
   exact ⟨rfl, rfl⟩
 ·have ha' : bok a = false := by simpa using ha
  have e1 : subB a b = 0 := by simp [subB, ha']
  have e2 : subC a b = false := by simp [subC, ha']
  rw [e1, e2]
  go_enter Tryz.func261, Tryz.ntmps261
  go_wp2_with (go_at_call 84; refine (qL _ _).mono ?_; rintro e w' ⟨rfl, rfl⟩)
  go_ret2
  exact ⟨rfl, rfl⟩

def zA4 (a : Int) : Int := if bok a then 2 * a % 256 + a / 128 else 0
def zAn (a : Int) : Bool := bok a && decide (127 < a)
def zA3 (a : Int) : Int := if bok a then a / 2 + 128 * (a % 2) else 0
def zBz (a : Int) : Bool := bok a && (a % 2 == 1)

theorem zG0 (a : Int) (w : World) :
  Calls Tryz.prog 314 #[.int .i64 a] w fun e w' => e = .returned (.tuple #[.int .i64 (zA4 a), .bool (zAn a)]) ∧ w' = w := by
 by_cases ha : bok a = true
 ·have hA := xG ha
  have e1 : zA4 a = 2 * a % 256 + a / 128 := by simp [zA4, ha]
  have e2 : zAn a = decide (127 < a) := by simp [zAn, ha]
  rw [e1, e2]
  go_enter Tryz.func314, Tryz.ntmps314
  go_wp2_with (go_at_call 146; refine (xB _ _).mono ?_; rintro e w' ⟨rfl, rfl⟩)
  go_ret2
  exact ⟨rfl, rfl⟩
 ·have ha' : bok a = false := by simpa using ha
  have e1 : zA4 a = 0 := by simp [zA4, ha']
  have e2 : zAn a = false := by simp [zAn, ha']
  rw [e1, e2]
  go_enter Tryz.func314, Tryz.ntmps314
  go_wp2_with (go_at_call 146; refine (xB _ _).mono ?_; rintro e w' ⟨rfl, rfl⟩)
  go_ret2
  exact ⟨rfl, rfl⟩

theorem zFu (a : Int) (w : World) :
  Calls Tryz.prog 315 #[.int .i64 a] w fun e w' => e = .returned (.tuple #[.int .i64 (zA3 a), .bool (zBz a)]) ∧ w' = w := by
 by_cases ha : bok a = true
 ·have hA := xG ha
  have e1 : zA3 a = a / 2 + 128 * (a % 2) := by simp [zA3, ha]
  have e2 : zBz a = (a % 2 == 1) := by simp [zBz, ha]
  rw [e1, e2]
  go_enter Tryz.func315, Tryz.ntmps315
  go_wp2_with (go_at_call 146; refine (xB _ _).mono ?_; rintro e w' ⟨rfl, rfl⟩)
  go_ret2
  exact ⟨rfl, rfl⟩
 ·have ha' : bok a = false := by simpa using ha
  have e1 : zA3 a = 0 := by simp [zA3, ha']
  have e2 : zBz a = false := by simp [zBz, ha']
  rw [e1, e2]
  go_enter Tryz.func315, Tryz.ntmps315
  go_wp2_with (go_at_call 146; refine (xB _ _).mono ?_; rintro e w' ⟨rfl, rfl⟩)
  go_ret2
  exact ⟨rfl, rfl⟩

theorem zTu {a : Int} (hA : 0 ≤ a ∧ a ≤ 255) : bits BinOp.or IntKind.u8 (a * 2 % 256) (a / 128) = 2 * a % 256 + a / 128 := by
 have key : ∀ n : Fin 256, bits BinOp.or IntKind.u8 ((n.val : Int) * 2 % 256) ((n.val : Int) / 128) = 2 * (n.val : Int) % 256 + (n.val : Int) / 128 := by decide +kernel
 have h := key ⟨a.toNat, by omega⟩
 have e : ((a.toNat : Nat) : Int) = a := by omega
 simpa only [e] using h
theorem zQ7 {a : Int} (hA : 0 ≤ a ∧ a ≤ 255) : bits BinOp.or IntKind.u8 (a / 2) (a * 128 % 256) = a / 2 + 128 * (a % 2) := by
 have key : ∀ n : Fin 256, bits BinOp.or IntKind.u8 ((n.val : Int) / 2) ((n.val : Int) * 128 % 256) = (n.val : Int) / 2 + 128 * ((n.val : Int) % 2) := by decide +kernel
 have h := key ⟨a.toNat, by omega⟩
 have e : ((a.toNat : Nat) : Int) = a := by omega
 simpa only [e] using h
theorem zRj (a : Int) (w : World) (hA : 0 ≤ a ∧ a ≤ 255) :
  Calls Tryz.prog 308 #[.int .u8 a] w fun e w' => e = .returned (.tuple #[.int .u8 (2 * a % 256 + a / 128), .bool (decide (127 < a))]) ∧ w' = w := by
 rw [← zTu hA]
 go_enter Tryz.func308, Tryz.ntmps308
 go_wp2
 go_ret2
 exact ⟨rfl, rfl⟩
theorem zOz (a : Int) (w : World) (hA : 0 ≤ a ∧ a ≤ 255) :
  Calls Tryz.prog 309 #[.int .u8 a] w fun e w' => e = .returned (.tuple #[.int .u8 (a / 2 + 128 * (a % 2)), .bool (a % 2 == 1)]) ∧ w' = w := by
 rw [← zQ7 hA]
 go_enter Tryz.func309, Tryz.ntmps309
 go_wp2
 go_ret2
 exact ⟨rfl, rfl⟩
theorem zK6 (a : Int) (w : World) (hA : 0 ≤ a ∧ a ≤ 255) :
  Calls Tryz.prog 307 #[.func (Fn.func 308) #[.int .u8 a] #[]] w fun e w' => e = .returned (.tuple #[.int .i64 (2 * a % 256 + a / 128), .bool (decide (127 < a))]) ∧ w' = w := by
 go_enter Tryz.func307, Tryz.ntmps307
 go_wp2_with (go_at_call 308; refine (zRj _ _ hA).mono ?_; rintro e w' ⟨rfl, rfl⟩)
 go_ret2
 exact ⟨rfl, rfl⟩
theorem zKa (a : Int) (w : World) (hA : 0 ≤ a ∧ a ≤ 255) :
  Calls Tryz.prog 307 #[.func (Fn.func 309) #[.int .u8 a] #[]] w fun e w' => e = .returned (.tuple #[.int .i64 (a / 2 + 128 * (a % 2)), .bool (a % 2 == 1)]) ∧ w' = w := by
 go_enter Tryz.func307, Tryz.ntmps307
 go_wp2_with (go_at_call 309; refine (zOz _ _ hA).mono ?_; rintro e w' ⟨rfl, rfl⟩)
 go_ret2
 exact ⟨rfl, rfl⟩
theorem zBy (a : Int) (w : World) :
  Calls Tryz.prog 267 #[.int .i64 a] w fun e w' => e = .returned (.tuple #[.int .i64 (zA4 a), .bool (zAn a)]) ∧ w' = w := by
 by_cases ha : bok a = true
 ·have hA := xG ha
  have e1 : zA4 a = 2 * a % 256 + a / 128 := by simp [zA4, ha]
  have e2 : zAn a = decide (127 < a) := by simp [zAn, ha]
  rw [e1, e2]
  go_enter Tryz.func267, Tryz.ntmps267
  go_wp2_with (first | (go_at_call 84; refine (qL _ _).mono ?_; rintro e w' ⟨rfl, rfl⟩) | (go_at_call 307; refine (zK6 _ _ hA).mono ?_; rintro e w' ⟨rfl, rfl⟩))
  go_ret2
  exact ⟨rfl, rfl⟩
 ·have ha' : bok a = false := by simpa using ha
  have e1 : zA4 a = 0 := by simp [zA4, ha']
  have e2 : zAn a = false := by simp [zAn, ha']
  rw [e1, e2]
  go_enter Tryz.func267, Tryz.ntmps267
  go_wp2_with (go_at_call 84; refine (qL _ _).mono ?_; rintro e w' ⟨rfl, rfl⟩)
  go_ret2
  exact ⟨rfl, rfl⟩
theorem zFv (a : Int) (w : World) :
  Calls Tryz.prog 269 #[.int .i64 a] w fun e w' => e = .returned (.tuple #[.int .i64 (zA3 a), .bool (zBz a)]) ∧ w' = w := by
 by_cases ha : bok a = true
 ·have hA := xG ha
  have e1 : zA3 a = a / 2 + 128 * (a % 2) := by simp [zA3, ha]
  have e2 : zBz a = (a % 2 == 1) := by simp [zBz, ha]
  rw [e1, e2]
  go_enter Tryz.func269, Tryz.ntmps269
  go_wp2_with (first | (go_at_call 84; refine (qL _ _).mono ?_; rintro e w' ⟨rfl, rfl⟩) | (go_at_call 307; refine (zKa _ _ hA).mono ?_; rintro e w' ⟨rfl, rfl⟩))
  go_ret2
  exact ⟨rfl, rfl⟩
 ·have ha' : bok a = false := by simpa using ha
  have e1 : zA3 a = 0 := by simp [zA3, ha']
  have e2 : zBz a = false := by simp [zBz, ha']
  rw [e1, e2]
  go_enter Tryz.func269, Tryz.ntmps269
  go_wp2_with (go_at_call 84; refine (qL _ _).mono ?_; rintro e w' ⟨rfl, rfl⟩)
  go_ret2
  exact ⟨rfl, rfl⟩
end Go.Proofs.YtamldhflkfbdnaaGreatDoor.Num
namespace Go.Proofs.YtamldhflkfbdnaaGreatDoor.Base
open Go.RowKit

structure Onto (p : Nat) (w w' : World) : Prop where
 os : w'.os = w.os
 tape : w'.tape = w.tape
 output : w'.output = w.output
 size : w.heap.size ≤ w'.heap.size
 block : ∀ k, k ≠ p → k < w.heap.size → w'.heap[k]? = w.heap[k]?

theorem Onto.refl (p : Nat) (w : World) : Onto p w w := ⟨rfl, rfl, rfl, Nat.le_refl _, fun _ _ _ => rfl⟩
theorem Onto.trans {p : Nat} {a b c : World} (h : Onto p a b) (k : Onto p b c) : Onto p a c :=
 ⟨k.os.trans h.os, k.tape.trans h.tape, k.output.trans h.output, Nat.le_trans h.size k.size, fun i hi hl => (k.block i hi (Nat.lt_of_lt_of_le hl h.size)).trans (h.block i hi hl)⟩
theorem Onto.drew {p : Nat} {a w : World} (h : Onto p a w) : Onto p a w.drew := ⟨h.os, h.tape, h.output, h.size, h.block⟩
theorem Onto.drewN {p : Nat} {a w : World} (h : Onto p a w) (n : Nat) : Onto p a (w.drewN n) := ⟨h.os, h.tape, h.output, h.size, h.block⟩
theorem Onto.alloc {p : Nat} {a w : World} (h : Onto p a w) (o : Obj) : Onto p a (w.alloc o) :=
 h.trans ⟨rfl, rfl, rfl, by simp, fun k _ hk => Below.heap_alloc _ _ _ hk⟩
theorem Onto.setCell {p : Nat} {a w : World} (h : Onto p a w) {q : Addr} (hq : q.block = p) (u : Value) : Onto p a (w.setCell q u) :=
 h.trans ⟨rfl, rfl, rfl, by simp [World.setCell], fun k hk _ => Below.heap_setCell _ _ _ _ (by omega)⟩
theorem Onto.setNew {p : Nat} {a w : World} (h : Onto p a w) {q : Addr} (hq : a.heap.size ≤ q.block) (u : Value) : Onto p a (w.setCell q u) :=
 ⟨h.os, h.tape, h.output, by simpa [World.setCell] using h.size, fun k hk hl => by rw [Below.heap_setCell _ _ _ _ (by omega)]; exact h.block k hk hl⟩
theorem Onto.below {p : Nat} {w w' : World} (h : Onto p w w') {B : Nat} (hB : B ≤ p) (hw : B ≤ w.heap.size) : Below B w w' :=
 ⟨h.os, h.tape, h.output, h.size, fun k hk => h.block k (by omega) (by omega)⟩
theorem Onto.cell {p : Nat} {w w' : World} (h : Onto p w w') {q : Addr} (hq : q.block ≠ p) (hl : q.block < w.heap.size) : w'.cell? q = w.cell? q :=
 World.cell?_of_block (w := w) (h.block q.block hq hl)
theorem Onto.frozen {p : Nat} {w w' : World} (h : Onto p w w') {q : Addr} (hq : q.block ≠ p) (hl : q.block < w.heap.size) : w'.frozen? q = w.frozen? q :=
 World.frozen?_of_block (w := w) (h.block q.block hq hl)

theorem zAs {w : World} {q : Addr} {v : Value} (h : w.cell? q = some v) : q.block < w.heap.size := by
 by_cases hl : q.block < w.heap.size
 ·exact hl
 ·have e : w.heap[q.block]? = none := by simp; omega
  simp [World.cell?, e] at h

theorem zCl (x m : Int) (h0 : 0 ≤ m) (h1 : m < 9223372036854775808) : 0 ≤ bits .and .i64 x m ∧ bits .and .i64 x m ≤ m := by
 have hm : (BitVec.ofInt 64 m).toNat = m.toNat := by
  rw [BitVec.toNat_ofInt]
  omega
 have hle : (BitVec.ofInt 64 x &&& BitVec.ofInt 64 m).toNat ≤ m.toNat := by
  rw [BitVec.toNat_and, hm]; exact Nat.and_le_right
 show 0 ≤ IntKind.i64.wrap ((BitVec.ofInt 64 x &&& BitVec.ofInt 64 m).toNat : Int) ∧ IntKind.i64.wrap ((BitVec.ofInt 64 x &&& BitVec.ofInt 64 m).toNat : Int) ≤ m
 generalize (BitVec.ofInt 64 x &&& BitVec.ofInt 64 m).toNat = r at hle
 have e : IntKind.i64.wrap (r : Int) = (r : Int) := by
  simp [IntKind.wrap, IntKind.bits, IntKind.signed]
  omega
 rw [e]
 omega
theorem zIy (x m : Int) (h0 : 0 ≤ m) (h1 : m < 9223372036854775808) : 0 ≤ bits .and .u64 x m ∧ bits .and .u64 x m ≤ m := by
 have hm : (BitVec.ofInt 64 m).toNat = m.toNat := by
  rw [BitVec.toNat_ofInt]
  omega
 have hle : (BitVec.ofInt 64 x &&& BitVec.ofInt 64 m).toNat ≤ m.toNat := by
  rw [BitVec.toNat_and, hm]; exact Nat.and_le_right
 show 0 ≤ IntKind.u64.wrap ((BitVec.ofInt 64 x &&& BitVec.ofInt 64 m).toNat : Int) ∧ IntKind.u64.wrap ((BitVec.ofInt 64 x &&& BitVec.ofInt 64 m).toNat : Int) ≤ m
 generalize (BitVec.ofInt 64 x &&& BitVec.ofInt 64 m).toNat = r at hle
 have e : IntKind.u64.wrap (r : Int) = (r : Int) := by
  simp [IntKind.wrap, IntKind.bits, IntKind.signed]
  omega
 rw [e]
 omega
theorem vB {k : IntKind} {a b : Int} (h : a = b) : Ending.returned (.int k a) = .returned (.int k b) := by rw [h]

theorem zT {a b : Bool} (h : a = b) : Ending.returned (.bool a) = .returned (.bool b) := by rw [h]

def jW (w : World) (a : Option Addr) (len : Nat) : Prop :=
 len = 0 ∨ ∃ b off, a = some ⟨b, off, none⟩ ∧ b < w.heap.size ∧ ∀ i, i < len → ∃ z : Int, w.cell? ⟨b, off + i, none⟩ = some (.int .u8 z) ∧ 0 ≤ z ∧ z ≤ 255
theorem jW.onto {p : Nat} {w w' : World} {a : Option Addr} {len : Nat} (h : jW w a len) (ho : Onto p w w') (hp : 0 < len → ∀ x, a = some x → x.block ≠ p) : jW w' a len := by
 rcases h with h | ⟨b, off, rfl, hb, hc⟩
 ·exact .inl h
 ·refine .inr ⟨b, off, rfl, Nat.lt_of_lt_of_le hb ho.size, fun i hi => ?_⟩
  obtain ⟨z, hz, h0⟩ := hc i hi
  exact ⟨z, by rw [ho.cell (q := ⟨b, off + i, none⟩) (hp (by omega) ⟨b, off, none⟩ rfl) hb]; exact hz, h0⟩
theorem jW.below {w w' : World} {a : Option Addr} {len : Nat} (h : jW w a len) (ho : Below w.heap.size w w') : jW w' a len := by
 rcases h with h | ⟨b, off, rfl, hb, hc⟩
 ·exact .inl h
 ·refine .inr ⟨b, off, rfl, Nat.lt_of_lt_of_le hb ho.size, fun i hi => ?_⟩
  obtain ⟨z, hz, h0⟩ := hc i hi
  exact ⟨z, by rw [ho.cell (p := ⟨b, off + i, none⟩) hb]; exact hz, h0⟩
theorem jW.keep {w w' : World} {a : Option Addr} {len : Nat} (h : jW w a len) (hs : w.heap.size ≤ w'.heap.size) (hk : 0 < len → ∀ x, a = some x → w'.heap[x.block]? = w.heap[x.block]?) : jW w' a len := by
 rcases h with h | ⟨b, off, rfl, hb, hc⟩
 ·exact .inl h
 ·by_cases h0 : 0 < len
  ·refine .inr ⟨b, off, rfl, Nat.lt_of_lt_of_le hb hs, fun i hi => ?_⟩
   obtain ⟨z, hz, hb⟩ := hc i hi
   exact ⟨z, by rw [World.cell?_of_block (w := w) (a := ⟨b, off + i, none⟩) (hk h0 ⟨b, off, none⟩ rfl)]; exact hz, hb⟩
  ·exact .inl (by omega)
theorem jW.lt {w : World} {a : Option Addr} {len : Nat} (h : jW w a len) : 0 < len → ∀ x, a = some x → x.block < w.heap.size := by
 intro h0 x hx
 rcases h with h | ⟨b, off, rfl, hb, hc⟩
 ·omega
 ·cases hx; exact hb
theorem zUi {w : World} {a : Option Addr} {len cap : Nat} {zs : List Int} (h : (a = none ∧ len = 0 ∧ cap = 0 ∧ zs = []) ∨
  ∃ x, a = some x ∧ len ≤ cap ∧ cap ≤ maxLen ∧ zs.length = cap ∧ (∀ i, i < zs.length → w.cell? (x.add i) = some (.int .u8 (zs.getD i 0))) ∧ ∀ n ∈ zs, (Lit.int .u8 n).wf = true) : jW w a len := by
 by_cases h0 : len = 0
 ·exact .inl h0
 ·rcases h with ⟨_, h1, _⟩ | ⟨⟨b, off, spot⟩, rfl, hl, hm, hz, hcell, hwz⟩
  ·exact absurd h1 h0
  ·have hc := hcell 0 (by omega)
   have hspot : spot = none := by simpa [Addr.add] using World.cell?_spot hc
   subst hspot
   refine .inr ⟨b, off, rfl, zAs hc, fun i hi => ?_⟩
   have hci := hcell i (by omega)
   have hg : zs.getD i 0 ∈ zs := by
    rw [List.getD_eq_getElem?_getD, List.getElem?_eq_getElem (by omega : i < zs.length)]
    simp
   have hb := bounds_u8 (hwz _ hg)
   refine ⟨zs.getD i 0, ?_, hb.1, hb.2⟩
   have e : (⟨b, off, none⟩ : Addr).add i = ⟨b, off + i, none⟩ := by
    by_cases hi0 : i = 0 <;> simp [Addr.add, hi0]
   rw [← e]; exact hci
end Go.Proofs.YtamldhflkfbdnaaGreatDoor.Base
namespace Go.Proofs.YtamldhflkfbdnaaGreatDoor.Slc
open Go.RowKit Base

def xM (w : World) (a : Option Addr) (len : Nat) (l : List Int) : Prop :=
 l.length = len ∧ (len = 0 ∨ ∃ b off, a = some ⟨b, off, none⟩ ∧ b < w.heap.size ∧ ∀ i, i < len → w.cell? ⟨b, off + i, none⟩ = some (.int .i64 (l.getD i 0)))
theorem xM.below {w w' : World} {a : Option Addr} {len : Nat} {l : List Int} (h : xM w a len l) (ho : Below w.heap.size w w') : xM w' a len l := by
 refine ⟨h.1, ?_⟩
 rcases h.2 with h | ⟨b, off, rfl, hb, hc⟩
 ·exact .inl h
 ·exact .inr ⟨b, off, rfl, Nat.lt_of_lt_of_le hb ho.size, fun i hi => by rw [ho.cell (p := ⟨b, off + i, none⟩) hb]; exact hc i hi⟩
theorem xM.onto {p : Nat} {w w' : World} {a : Option Addr} {len : Nat} {l : List Int} (h : xM w a len l) (ho : Onto p w w') (hp : 0 < len → ∀ x, a = some x → x.block ≠ p) : xM w' a len l := by
 refine ⟨h.1, ?_⟩
 rcases h.2 with h | ⟨b, off, rfl, hb, hc⟩
 ·exact .inl h
 ·by_cases hl : 0 < len
  ·exact .inr ⟨b, off, rfl, Nat.lt_of_lt_of_le hb ho.size, fun i hi => by rw [ho.cell (q := ⟨b, off + i, none⟩) (hp hl ⟨b, off, none⟩ rfl) hb]; exact hc i hi⟩
  ·exact .inl (by omega)
theorem xM.drewN {w : World} {a : Option Addr} {len : Nat} {l : List Int} (h : xM w a len l) (n : Nat) : xM (w.drewN n) a len l := h
theorem xM.nil (w : World) (a : Option Addr) : xM w a 0 [] := ⟨rfl, .inl rfl⟩
theorem xM.take {w : World} {a : Option Addr} {len : Nat} {l : List Int} (h : xM w a len l) (n : Nat) (hn : n ≤ len) : xM w a n (l.take n) := by
 refine ⟨by simp [h.1]; omega, ?_⟩
 rcases h.2 with h0 | ⟨b, off, rfl, hb, hc⟩
 ·exact .inl (by omega)
 ·refine .inr ⟨b, off, rfl, hb, fun i hi => ?_⟩
  rw [hc i (by omega)]
  simp [List.getD_eq_getElem?_getD, List.getElem?_take, hi]
def Own (base : Nat) (w : World) (v : Value) (l : List Int) : Prop := w.ownsRow base 2 1 v l.length (l.map (Value.int .i64))
theorem Own.nil (base : Nat) (w : World) : Own base w (.slice none 0 0) [] := World.ownsRow_nil _ _ _ _
theorem Own.shape {base : Nat} {w : World} {v : Value} {l : List Int} (h : Own base w v l) : ∃ a cap, v = .slice a l.length cap ∧ xM w a l.length l ∧ l.length ≤ maxLen ∧ (∀ x, a = some x → base ≤ x.block ∧ x.block < w.heap.size) := by
 rcases h.2 with ⟨rfl, h0⟩ | ⟨g, cap, cur, rfl, hb, hg, hn, hm, hcs, ht⟩
 ·exact ⟨none, 0, by rw [h0], ⟨rfl, .inl h0⟩, by omega, by simp⟩
 ·have hlt : g < w.heap.size := (Array.getElem?_eq_some_iff.1 hg).1
  refine ⟨some ⟨g, 0, none⟩, cap, rfl, ⟨rfl, .inr ⟨g, 0, rfl, hlt, fun i hi => ?_⟩⟩, by omega, fun x hx => by cases hx; exact ⟨hb, hlt⟩⟩
  have := World.ownsRow.cells h (g := g) rfl i (.int .i64 (l.getD i 0)) (by simp [List.getD_eq_getElem?_getD, List.getElem?_eq_getElem hi])
  have e : (⟨g, 0, none⟩ : Addr).add i = ⟨g, 0 + i, none⟩ := by
   by_cases hi0 : i = 0 <;> simp [Addr.add, hi0]
  rw [← e]; exact this
theorem Own.mono {base base' : Nat} {w : World} {v : Value} {l : List Int} (h : Own base w v l) (hb : base' ≤ base) : Own base' w v l := by
 refine ⟨h.1, ?_⟩
 rcases h.2 with h0 | ⟨g, cap, cur, rfl, hb', rest⟩
 ·exact .inl h0
 ·exact .inr ⟨g, cap, cur, rfl, Nat.le_trans hb hb', rest⟩
theorem Own.kept {base : Nat} {w w' : World} {v : Value} {l : List Int} (h : Own base w v l) (hk : ∀ k, v.ownBlock = some k → w'.heap[k]? = w.heap[k]?) : Own base w' v l := by
 refine ⟨h.1, ?_⟩
 rcases h.2 with h0 | ⟨g, cap, cur, rfl, hb, hg, rest⟩
 ·exact .inl h0
 ·exact .inr ⟨g, cap, cur, rfl, hb, by rw [hk g rfl]; exact hg, rest⟩
theorem Own.lt {base : Nat} {w : World} {v : Value} {l : List Int} (h : Own base w v l) : ∀ k, v.ownBlock = some k → base ≤ k ∧ k < w.heap.size := World.ownsRow.lt h
theorem Own.below {base : Nat} {w w' : World} {v : Value} {l : List Int} (h : Own base w v l) (hb : Below w.heap.size w w') : Own base w' v l :=
 h.kept fun k hk => hb.block k (h.lt k hk).2
theorem Own.onto {base p : Nat} {w w' : World} {v : Value} {l : List Int} (h : Own base w v l) (ho : Onto p w w') (hp : v.ownBlock ≠ some p) : Own base w' v l :=
 h.kept fun k hk => ho.block k (fun e => hp (by rw [hk, e])) (h.lt k hk).2
theorem Own.drewN {base : Nat} {w : World} {v : Value} {l : List Int} (h : Own base w v l) (n : Nat) : Own base (w.drewN n) v l := h
theorem below_drewN {B : Nat} {w w' : World} (h : Below B w w') (n : Nat) : Below B w (w'.drewN n) := ⟨h.os, h.tape, h.output, h.size, h.block⟩

theorem xC {w w' : World} {n : Nat} (h : w' = w.drewN n) : Below w.heap.size w w' := by rw [h]; exact below_drewN (Below.refl _ _) n

theorem getD_take {l : List Int} {k : Nat} (h : k < l.length) : l.take (k + 1) = l.take k ++ [l.getD k 0] := by
 rw [List.take_succ_eq_append_getElem h]
 simp [List.getD_eq_getElem?_getD, List.getElem?_eq_getElem h]

def Sl (w : World) (v : Value) (l : List Int) : Prop :=
 ∃ a cap, v = .slice a l.length cap ∧ xM w a l.length l ∧ l.length ≤ cap ∧ cap ≤ maxLen ∧ (a = none → l.length = 0 ∧ cap = 0)
theorem Sl.below {w w' : World} {v : Value} {l : List Int} (h : Sl w v l) (hb : Below w.heap.size w w') : Sl w' v l := by
 obtain ⟨a, cap, rfl, h1, h2⟩ := h
 exact ⟨a, cap, rfl, h1.below hb, h2⟩
theorem Sl.drewN {w : World} {v : Value} {l : List Int} (h : Sl w v l) (n : Nat) : Sl (w.drewN n) v l := h
theorem Own.sl {base : Nat} {w : World} {v : Value} {l : List Int} (h : Own base w v l) : Sl w v l := by
 obtain ⟨a, cap, hv, hi, hm, hx⟩ := h.shape
 refine ⟨a, cap, hv, hi, ?_⟩
 rcases h.2 with ⟨rfl, h0⟩ | ⟨g, cap', cur, rfl, hb, hg, hn, hm', hcs, ht⟩
 ·simp only [Value.slice.injEq] at hv
  obtain ⟨rfl, h1, rfl⟩ := hv
  exact ⟨by omega, by decide, fun _ => ⟨h0, rfl⟩⟩
 ·simp only [Value.slice.injEq] at hv
  obtain ⟨rfl, _, rfl⟩ := hv
  exact ⟨hn, hm', by simp⟩
theorem Sl.lt {w : World} {v : Value} {l : List Int} (h : Sl w v l) (h0 : 0 < l.length) : ∀ k, v.ownBlock = some k → k < w.heap.size := by
 obtain ⟨a, cap, rfl, h1, h2⟩ := h
 rcases h1.2 with h | ⟨b, off, rfl, hb, hc⟩
 ·omega
 ·intro k hk
  simp [Value.ownBlock] at hk
  omega
theorem Sl.grown {w w' : World} {v : Value} {l : List Int} {row : Option Nat} (h : Sl w v l) (hg : w.grownBy w' row) (hr : 0 < l.length → ∀ k, row = some k → v.ownBlock ≠ some k) : Sl w' v l := by
 obtain ⟨a, cap, rfl, h1, h2⟩ := h
 refine ⟨a, cap, rfl, ⟨h1.1, ?_⟩, h2⟩
 rcases h1.2 with h0 | ⟨b, off, rfl, hb, hc⟩
 ·exact .inl h0
 ·by_cases h0 : 0 < l.length
  ·refine .inr ⟨b, off, rfl, Nat.lt_of_lt_of_le hb hg.size, fun i hi => ?_⟩
   rw [World.cell?_of_block (w := w) (a := ⟨b, off + i, none⟩) (hg.block b hb (fun e => hr h0 b e.symm rfl))]
   exact hc i hi
  ·exact .inl (by omega)
theorem Own.grown {base : Nat} {w w' : World} {v : Value} {l : List Int} {row : Option Nat} (h : Own base w v l) (hg : w.grownBy w' row) (hr : ∀ k, row = some k → v.ownBlock ≠ some k) : Own base w' v l :=
 h.kept fun k hk => hg.block k (h.lt k hk).2 (fun e => hr k e.symm hk)

theorem zD5 : (Tryz.prog.info? 2).map (fun i => (i.zero, i.size, i.bytes)) = some (some (.int .i64 0), 1, 8) := by kernel_rfl
theorem zBq : Tryz.prog.underlying 24 = some (.slice 2) := by kernel_rfl

theorem app {w : World} {ops : Array Oper} {rest : List Oper} {o : Oper} {a : Act} {Q : Exit → Act → World → Prop} (hgd : o.guard = none) (s x : Operand)
  (ho : o.op = .call { callee := .builtin .append, args := #[s, x], argTypes := #[24, 24] })
  (base : Nat) (l news : List Int) (hown : Own base w (a.eval s) l) (hn : Sl w (a.eval x) news) (hbd : l.length + news.length ≤ 17592186044416) (hbase : base ≤ w.heap.size)
  (h : ∀ v' w', Own base w' v' (l ++ news) → w.grownBy w' (a.eval s).ownBlock → wpList Tryz.prog ops Q rest (a.put o.dst v') w') : wpList Tryz.prog ops Q (o :: rest) a w := by
 obtain ⟨i0, hi, hz0, hz1, hz2⟩ := info_parts zD5
 obtain ⟨ao, cap, hx, hat, hlc, hcm, hnil⟩ := hn
 cases ao with
 | none =>
  obtain ⟨h0, rfl⟩ := hnil rfl
  have : news = [] := List.eq_nil_of_length_eq_zero h0
  subst this
  refine wpList_append_own_none hgd s x 24 ho base 2 i0 1 zBq hi (a.eval s) l.length (l.map (Value.int .i64)) rfl hown hx ?_
  have hh := h (a.eval s) w (by simpa using hown) (World.grownBy.refl w _)
  exact hh
 | some ad =>
  refine wpList_append_own w hgd s x 24 ho base 2 i0 (.int .i64 0) 1 8 zBq hi hz0 hz1 hz2 rfl (by decide) (a.eval s) l.length (l.map (Value.int .i64)) rfl hown ad news.length cap (news.map (Value.int .i64)) hx (by simp) ?_ (ints_oneCell _ _) (by unfold maxLen; omega) (by omega) hbase ?_
  ·intro j u hj
   have hjl : j < news.length := by
    have := (List.getElem?_eq_some_iff.1 hj).1
    simpa using this
   rcases hat.2 with h0 | ⟨b, off, hb, hbs, hc⟩
   ·omega
   ·cases hb; have hcj := hc j hjl
    have e : (⟨b, off, none⟩ : Addr).add j = ⟨b, off + j, none⟩ := by
     by_cases hi0 : j = 0 <;> simp [Addr.add, hi0]
    rw [e, hcj]
    simp [List.getElem?_eq_getElem hjl] at hj
    rw [← hj, List.getD_eq_getElem?_getD, List.getElem?_eq_getElem hjl]
    rfl
  ·intro v' w' h2 h3 _
   refine h v' w' ?_ h3
   unfold Own
   rw [List.length_append, List.map_append]
   exact h2
theorem zB4 (base : Nat) (w : World) (cs : Array Value) (l : List Int) (hc : cs.toList = l.map (Value.int .i64)) (hm : l.length ≤ maxLen) (hb : base ≤ w.heap.size) :
  Own base (w.alloc (.cells cs 2)) (.slice (some ⟨w.heap.size, 0, none⟩) l.length l.length) l := by
 have hs : cs.size = l.length := by rw [← Array.length_toList, hc, List.length_map]
 exact ⟨by simp, .inr ⟨w.heap.size, l.length, cs, rfl, hb, heap_alloc_new w _, Nat.le_refl _, hm, by omega, by rw [← hc, List.take_of_length_le (by simp; omega)]⟩⟩
theorem zHp (w : World) (cs : Array Value) (l : List Int) (hc : cs.toList = l.map (Value.int .i64)) (hm : l.length ≤ maxLen) :
  Sl (w.alloc (.cells cs 2)) (.slice (some ⟨w.heap.size, 0, none⟩) l.length l.length) l := (zB4 0 w cs l hc hm (Nat.zero_le _)).sl
theorem Own.block {base : Nat} {w : World} {v : Value} {l : List Int} (h : Own base w v l) (h0 : 0 < l.length) : ∃ g cap, v = .slice (some ⟨g, 0, none⟩) l.length cap ∧ base ≤ g ∧ g < w.heap.size ∧ l.length ≤ cap ∧ cap ≤ maxLen := by
 have hlt := h.lt
 rcases h.2 with ⟨rfl, hn⟩ | ⟨g, cap, cur, rfl, hb, hg, hn, hm, hcs, ht⟩
 ·omega
 ·exact ⟨g, cap, rfl, hb, (hlt g rfl).2, hn, hm⟩
theorem Own.store {base g n cap : Nat} {w : World} {l : List Int} (h : Own base w (.slice (some ⟨g, 0, none⟩) n cap) l) (j : Nat) (x : Int) :
  Own base (w.setCell ⟨g, j, none⟩ (.int .i64 x)) (.slice (some ⟨g, 0, none⟩) n cap) (l.set j x) ∧ w.grownBy (w.setCell ⟨g, j, none⟩ (.int .i64 x)) (some g) := by
 have hn : l.length = n := by
  obtain ⟨a, c, he, _⟩ := h.shape
  simp only [Value.slice.injEq] at he
  exact he.2.1.symm
 subst hn
 have hs := World.ownsRow.stored h j (.int .i64 x)
 refine ⟨?_, hs.2⟩
 unfold Own
 rw [List.length_set, List.map_set]
 exact hs.1
theorem Own.cellAt {base g n cap : Nat} {w : World} {l : List Int} (h : Own base w (.slice (some ⟨g, 0, none⟩) n cap) l) {j : Nat} (hj : j < l.length) : w.cell? ⟨g, j, none⟩ = some (.int .i64 (l.getD j 0)) := by
 have hn : l.length = n := by
  obtain ⟨a, c, he, _⟩ := h.shape
  simp only [Value.slice.injEq] at he
  exact he.2.1.symm
 subst hn
 rw [World.ownsRow.cellAt h j (by omega)]
 simp [List.getD_eq_getElem?_getD, List.getElem?_eq_getElem hj]
theorem Own.free {base g n cap : Nat} {w : World} {l : List Int} (h : Own base w (.slice (some ⟨g, 0, none⟩) n cap) l) (j : Nat) : w.frozen? ⟨g, j, none⟩ = false := by
 have hn : l.length = n := by
  obtain ⟨a, c, he, _⟩ := h.shape
  simp only [Value.slice.injEq] at he
  exact he.2.1.symm
 subst hn
 exact World.ownsRow.frozenAt h j
end Go.Proofs.YtamldhflkfbdnaaGreatDoor.Slc
namespace Go.Proofs.YtamldhflkfbdnaaGreatDoor.Rw
open Go.RowKit Base

structure Row (w : World) (b : Nat) (cs : Array Value) (T : TypeId) : Prop where
 row : w.heap[b]? = some (.cells cs T (0, 0))
 cell : ∀ o, w.cell? ⟨b, o, none⟩ = cs[o]?
 free : ∀ o, w.frozen? ⟨b, o, none⟩ = false
 lt : b < w.heap.size
theorem Row.of {w : World} {b : Nat} {cs : Array Value} {T : TypeId} (h : w.heap[b]? = some (.cells cs T (0, 0))) : Row w b cs T :=
 ⟨h, fun o => cell_of_row w b o cs T (0, 0) h, fun o => frozen_of_row w b o cs T h, by
  by_cases hl : b < w.heap.size
  ·exact hl
  ·simp at hl; simp [hl] at h⟩
theorem Row.new (w : World) (cs : Array Value) (T : TypeId) : Row (w.alloc (.cells cs T)) w.heap.size cs T := Row.of (heap_alloc_new _ _)
theorem Row.new1 {w : World} {n : Nat} (h : w.heap.size = n) (cs : Array Value) (T : TypeId) : Row (w.alloc (.cells cs T)) n cs T := h ▸ Row.new w cs T
theorem Row.keep {w w' : World} {b : Nat} {cs : Array Value} {T : TypeId} (h : Row w b cs T) (hk : w'.heap[b]? = w.heap[b]?) : Row w' b cs T := Row.of (hk.trans h.row)
theorem Row.below {w w' : World} {b : Nat} {cs : Array Value} {T : TypeId} (h : Row w b cs T) (hb : Below w.heap.size w w') : Row w' b cs T := h.keep (hb.block b h.lt)
theorem Row.alloc {w : World} {b : Nat} {cs : Array Value} {T : TypeId} (h : Row w b cs T) (o : Obj) : Row (w.alloc o) b cs T := h.below ((Below.refl _ _).alloc (Nat.le_refl _) _)
theorem Row.drewN {w : World} {b : Nat} {cs : Array Value} {T : TypeId} (h : Row w b cs T) (n : Nat) : Row (w.drewN n) b cs T := h.keep rfl
theorem Row.onto {p : Nat} {w w' : World} {b : Nat} {cs : Array Value} {T : TypeId} (h : Row w b cs T) (ho : Onto p w w') (hp : b ≠ p) : Row w' b cs T := h.keep (ho.block b hp h.lt)
theorem Row.set {w : World} {b : Nat} {cs : Array Value} {T : TypeId} (h : Row w b cs T) (i : Nat) (v : Value) : Row (w.setCell ⟨b, i, none⟩ v) b (cs.setIfInBounds i v) T := Row.of (heap_setCell_same w b i cs T v h.row)
theorem Row.setOther {w : World} {b : Nat} {cs : Array Value} {T : TypeId} (h : Row w b cs T) (q : Addr) (v : Value) (hq : b ≠ q.block) : Row (w.setCell q v) b cs T := h.keep (heap_setCell_other w q b v hq)
theorem zA {p : Nat} {w w' w'' : World} (h : Below w.heap.size w w') (ho : Onto p w' w'') (hp : w.heap.size ≤ p) : Below w.heap.size w w'' :=
 ⟨ho.os.trans h.os, ho.tape.trans h.tape, ho.output.trans h.output, Nat.le_trans h.size ho.size, fun k hk => by
  have := h.size
  rw [ho.block k (by omega) (by omega)]; exact h.block k hk⟩
theorem zD {w w' w'' : World} (h : Below w.heap.size w w') (hb : Below w'.heap.size w' w'') : Below w.heap.size w w'' := h.trans (hb.mono h.size)
theorem box2 {w w1 : World} {A B : Array Value} {T U : TypeId} (hb : Below ((w.alloc (.cells A T)).alloc (.cells B U)).heap.size ((w.alloc (.cells A T)).alloc (.cells B U)) w1) :
  Row w1 w.heap.size A T ∧ Row w1 (w.heap.size + 1) B U ∧ Below w.heap.size w w1 :=
 ⟨((Row.new w A T).alloc _).below hb, (Row.new1 (w := w.alloc _) (n := w.heap.size + 1) (by simp) B U).below hb, (((Below.refl _ w).alloc (Nat.le_refl _) _).alloc (by simp) _).trans (hb.mono (by simp; omega))⟩
def Rows (w : World) (L : List (Nat × Array Value × TypeId)) : Prop := ∀ x ∈ L, Row w x.1 x.2.1 x.2.2
theorem Rows.none (w : World) : Rows w [] := fun _ h => by cases h
theorem Rows.below {w w' : World} {L : List (Nat × Array Value × TypeId)} (h : Rows w L) (hb : Below w.heap.size w w') : Rows w' L := fun x hx => (h x hx).below hb
theorem Rows.drew {w : World} {L : List (Nat × Array Value × TypeId)} (h : Rows w L) : Rows w.drew L := fun x hx => (h x hx).drewN 1
theorem Rows.alloc {w : World} {L : List (Nat × Array Value × TypeId)} (h : Rows w L) (cs : Array Value) (T : TypeId) : Rows (w.alloc (.cells cs T)) ((w.heap.size, cs, T) :: L) := fun x hx => by
 rcases List.mem_cons.1 hx with rfl | hx
 ·exact Row.new w cs T
 ·exact (h x hx).alloc _
theorem Rows.at {w : World} {L : List (Nat × Array Value × TypeId)} (h : Rows w L) (i : Nat) {x : Nat × Array Value × TypeId} (hx : L[i]? = some x) : Row w x.1 x.2.1 x.2.2 := h x (List.mem_of_getElem? hx)
section
variable {P : Program}
theorem zF9 {ops : Array Oper} {rest : List Oper} {o : Oper} {a : Act} {w : World} {Q : Exit → Act → World → Prop} (hgd : o.guard = none) (ty : TypeId) (x : Operand) (ho : o.op = .load ty x)
  {g : Nat} (hx : a.eval x = .pointer (some ⟨g, 0, none⟩)) {T : TypeId} {cs : Array Value} (hr : Row w g cs T) {d : TypeDesc}
  (hu : P.underlying ty = some d) (hd : (match d with | .struct _ | .array _ _ => true | _ => false) = true) (hi : (P.info? ty).map (·.size) = some cs.size)
  (h : wpList P ops Q rest (a.put o.dst (.agg cs)) w) : wpList P ops Q (o :: rest) a w :=
 wpList_load_row hgd ty x ho g hx T cs (0, 0) d hr.row hu hd hi h
theorem zBf {ops : Array Oper} {rest : List Oper} {o : Oper} {a : Act} {w : World} {Q : Exit → Act → World → Prop} (hgd : o.guard = none) (ty : TypeId) (x y : Operand) (ho : o.op = .store ty x y)
  {g : Nat} {cells : Array Value} (hx : a.eval x = .pointer (some ⟨g, 0, none⟩)) (hy : a.eval y = .agg cells) {T : TypeId} {old : Array Value} (hr : Row w g old T)
  (hi : (P.info? ty).map (·.size) = some cells.size) (hold : old.size = cells.size) (h1 : cells.all (·.oneCell') = true)
  (h : ∀ w', Row w' g cells T → Onto g w w' → w'.heap.size = w.heap.size → wpList P ops Q rest (a.put o.dst undef) w') : wpList P ops Q (o :: rest) a w :=
 wpList_store_row hgd ty x y ho g cells hx hy T old hr.row hi hold h1
  (h _ (Row.of (setRow_heap w g old cells T _ hr.row)) ⟨rfl, rfl, rfl, by simp, fun k hk _ => setRow_other w g k cells hk⟩ (by simp))
theorem qQ {fn : Func} {R : Ending → World → Prop} {a : Act} {w : World} {p : Tmp} {ty : TypeId} (h : fn.results = #[.cell p ty]) {g : Nat} {T : TypeId} {cs : Array Value} {d : TypeDesc}
  (hp : a.tmps.getD p undef = .pointer (some ⟨g, 0, none⟩)) (hr : Row w g cs T)
  (hu : P.underlying ty = some d) (hd : (match d with | .struct _ | .array _ _ => true | _ => false) = true) (hi : (P.info? ty).map (·.size) = some cs.size)
  (hde : a.defers = []) (hR : R (.returned (.agg cs)) w) : bodyPost P fn R .ret a w :=
 bodyPost_ret (results_cell_row h a.tmps w g T cs (0, 0) d hp hr.row hu hd hi) hde hR
theorem qN {fn : Func} {R : Ending → World → Prop} {a : Act} {w : World} {p u : Tmp} {ty : TypeId} (h : fn.results = #[.cell p ty, .tmp u]) {g : Nat} {T : TypeId} {cs : Array Value} {d : TypeDesc}
  (hp : a.tmps.getD p undef = .pointer (some ⟨g, 0, none⟩)) (hr : Row w g cs T)
  (hu : P.underlying ty = some d) (hd : (match d with | .struct _ | .array _ _ => true | _ => false) = true) (hi : (P.info? ty).map (·.size) = some cs.size)
  (hde : a.defers = []) {v : Value} (hv : a.tmps.getD u undef = v) (hR : R (.returned (.tuple #[.agg cs, v])) w) : bodyPost P fn R .ret a w := by
 subst hv
 refine bodyPost_ret ?_ hde hR
 rw [results_cell_tmp h, hp]
 simp [asAddr, run_loadVar_row w g T ty cs (0, 0) d hr.row hu hd hi]
theorem qO {fn : Func} {R : Ending → World → Prop} {a : Act} {w : World} {p u u2 : Tmp} {ty : TypeId} (h : fn.results = #[.cell p ty, .tmp u, .tmp u2]) {g : Nat} {T : TypeId} {cs : Array Value} {d : TypeDesc}
  (hp : a.tmps.getD p undef = .pointer (some ⟨g, 0, none⟩)) (hr : Row w g cs T)
  (hu : P.underlying ty = some d) (hd : (match d with | .struct _ | .array _ _ => true | _ => false) = true) (hi : (P.info? ty).map (·.size) = some cs.size)
  (hde : a.defers = []) {v v2 : Value} (hv : a.tmps.getD u undef = v) (hv2 : a.tmps.getD u2 undef = v2) (hR : R (.returned (.tuple #[.agg cs, v, v2])) w) : bodyPost P fn R .ret a w := by
 subst hv hv2
 refine bodyPost_ret ?_ hde hR
 have hp' : a.tmps[p]?.getD undef = .pointer (some ⟨g, 0, none⟩) := by simpa using hp
 simp [results, h, hp', asAddr, run_loadVar_row w g T ty cs (0, 0) d hr.row hu hd hi]
end
def spl : List Value → Nat → Array Value → Array Value
 | [], _, cs => cs
 | v :: r, k, cs => spl r (k + 1) (cs.setIfInBounds k v)
theorem Row.cells {g : Nat} {T : TypeId} : ∀ (vs : List Value) (k : Nat) (w : World) (cs : Array Value), Row w g cs T → Row (w.setCells g k vs) g (spl vs k cs) T
 | [], _, _, _, h => h
 | v :: r, k, w, cs, h => Row.cells r (k + 1) _ _ (h.set k v)
theorem zDg {g : Nat} : ∀ (vs : List Value) (k : Nat) (w0 w : World), Onto g w0 w → Onto g w0 (w.setCells g k vs)
 | [], _, _, _, h => h
 | v :: r, k, w0, w, h => zDg r (k + 1) w0 _ (h.setCell rfl v)
theorem zHq {g : Nat} : ∀ (vs : List Value) (k : Nat) (w : World), (w.setCells g k vs).heap.size = w.heap.size
 | [], _, _ => rfl
 | v :: r, k, w => (zHq r (k + 1) _).trans (by simp)
theorem Row.there {w : World} {g : Nat} {cs : Array Value} {T : TypeId} (h : Row w g cs T) (k n : Nat) (hk : k + n ≤ cs.size) : w.there g k n := fun j hj => by
 refine ⟨?_, h.free _⟩
 rw [h.cell]
 simp; omega
section
variable {P : Program}
theorem zA6 (w : World) (g k : Nat) (ty : TypeId) (v : Value) (vs : List Value) (hv : v.cells.toList = vs) (ht : w.there g k vs.length) (hi : (P.info? ty).map (·.size) = some vs.length) (h1 : vs.all (·.oneCell') = true) :
  (storeVar ty ⟨g, k, none⟩ v).run P w = .ok () (w.setCells g k vs) := by
 subst hv
 have := run_storeCells_cells (P := P) g k v.cells.toList 0 w (fun j hj => by simpa using (ht j (by simpa using hj)).1) (fun j hj => by simpa using (ht j (by simpa using hj)).2)
  (fun u hu => (List.all_eq_true.1 h1) u hu)
 cases hq : P.info? ty with
 | none => simp [hq] at hi
 | some i =>
  have hs : v.cells.size = i.size := by simp [hq] at hi; omega
  simp only [Nat.add_zero] at this
  simp [storeVar, sizeOf, typeInfo, hq, hs, this]
theorem vG {ops : Array Oper} {rest : List Oper} {o : Oper} {a : Act} {w : World} {Q : Exit → Act → World → Prop} (hgd : o.guard = none) {ty : TypeId} {x y : Operand} (ho : o.op = .store ty x y)
  {g k : Nat} {v : Value} {vs : List Value} {cs cs' : Array Value} {T : TypeId} (hx : a.eval x = .pointer (some ⟨g, k, none⟩)) (hy : a.eval y = v) (hr : Row w g cs T) (hv : v.cells.toList = vs)
  (hi : (P.info? ty).map (·.size) = some vs.length) (hk : decide (k + vs.length ≤ cs.size) = true) (h1 : vs.all (·.oneCell') = true) (hcs : spl vs k cs = cs')
  (h : ∀ w', Row w' g cs' T → Onto g w w' → w'.heap.size = w.heap.size → wpList P ops Q rest (a.put o.dst undef) w') : wpList P ops Q (o :: rest) a w :=
 wpList_plain hgd fun _ hK => by
  unfold Oper.wp execOp
  simp only [ho, hx, hy, Instr.storeAt, Instr.sureAddr, Sem.run_bind, Sem.run_pure, Result.andThen_ok, zA6 w g k ty v vs hv (hr.there k vs.length (of_decide_eq_true hk)) hi h1]
  exact hK _ _ (h _ (hcs ▸ hr.cells vs k) (zDg vs k _ _ (Onto.refl _ _)) (zHq _ _ _))
theorem zM9 {ops : Array Oper} {rest : List Oper} {o : Oper} {a : Act} {w : World} {Q : Exit → Act → World → Prop} (hgd : o.guard = none) {ty : TypeId} {x y : Operand} (ho : o.op = .store ty x y)
  {g k : Nat} {z : Int} {kd : IntKind} {cs : Array Value} {T : TypeId} (hx : a.eval x = .pointer (some ⟨g, k, none⟩)) (hy : a.eval y = .int kd z) (hr : Row w g cs T)
  (hi : (P.info? ty).map (·.size) = some 1) (hk : decide (k < cs.size) = true)
  (h : ∀ w', Row w' g (cs.setIfInBounds k (.int kd z)) T → Onto g w w' → w'.heap.size = w.heap.size → wpList P ops Q rest (a.put o.dst undef) w') : wpList P ops Q (o :: rest) a w :=
 vG (vs := [.int kd z]) hgd ho hx hy hr rfl hi hk rfl rfl h
theorem st_flag {ops : Array Oper} {rest : List Oper} {o : Oper} {a : Act} {w : World} {Q : Exit → Act → World → Prop} (hgd : o.guard = none) {ty : TypeId} {x y : Operand} (ho : o.op = .store ty x y)
  {g k : Nat} {z : Bool} {cs : Array Value} {T : TypeId} (hx : a.eval x = .pointer (some ⟨g, k, none⟩)) (hy : a.eval y = .bool z) (hr : Row w g cs T)
  (hi : (P.info? ty).map (·.size) = some 1) (hk : decide (k < cs.size) = true)
  (h : ∀ w', Row w' g (cs.setIfInBounds k (.bool z)) T → Onto g w w' → w'.heap.size = w.heap.size → wpList P ops Q rest (a.put o.dst undef) w') : wpList P ops Q (o :: rest) a w :=
 vG (vs := [.bool z]) hgd ho hx hy hr rfl hi hk rfl rfl h
theorem zKd {ops : Array Oper} {rest : List Oper} {o : Oper} {a : Act} {w : World} {Q : Exit → Act → World → Prop} (hgd : o.guard = none) {ty : TypeId} {x y : Operand} (ho : o.op = .store ty x y)
  {g k : Nat} {z z2 : Int} {kd kd2 : IntKind} {cs : Array Value} {T : TypeId} (hx : a.eval x = .pointer (some ⟨g, k, none⟩)) (hy : a.eval y = .agg #[.int kd z, .int kd2 z2]) (hr : Row w g cs T)
  (hi : (P.info? ty).map (·.size) = some 2) (hk : decide (k + 1 < cs.size) = true)
  (h : ∀ w', Row w' g ((cs.setIfInBounds k (.int kd z)).setIfInBounds (k + 1) (.int kd2 z2)) T → Onto g w w' → w'.heap.size = w.heap.size → wpList P ops Q rest (a.put o.dst undef) w') : wpList P ops Q (o :: rest) a w :=
 vG (vs := [.int kd z, .int kd2 z2]) hgd ho hx hy hr rfl hi hk rfl rfl h
theorem zJ2 {ops : Array Oper} {rest : List Oper} {o : Oper} {a : Act} {w : World} {Q : Exit → Act → World → Prop} (hgd : o.guard = none) {ty : TypeId} {x : Operand} (ho : o.op = .load ty x)
  {g k : Nat} {cs cs' : Array Value} {T : TypeId} {d : TypeDesc} (hx : a.eval x = .pointer (some ⟨g, k, none⟩)) (hr : Row w g cs T) (hu : P.underlying ty = some d) (hd : d.isRow = true)
  (hcs : cs.extract k (k + cs'.size) = cs') (hi : (P.info? ty).map (·.size) = some cs'.size)
  (h : wpList P ops Q rest (a.put o.dst (.agg cs')) w) : wpList P ops Q (o :: rest) a w := by
 have hrange : w.rangeAt g k cs'.toList := by
  have := World.rangeAt_of_block hr.row k cs'.size
  rwa [hcs] at this
 refine wpList_load_mid hgd ty x ho g k hx cs'.toList d hrange hu hd (by simpa using hi) ?_
 simpa using h
theorem zFj {o : Oper} {a : Act} {w : World} {K : Act → World → Prop} {Q : Exit → Act → World → Prop} {ty : TypeId} {x : Operand} (ho : o.op = .load ty x)
  {g k : Nat} {cs cs' : Array Value} {T : TypeId} {d : TypeDesc} (hx : a.eval x = .pointer (some ⟨g, k, none⟩)) (hr : Row w g cs T) (hu : P.underlying ty = some d) (hd : d.isRow = true)
  (hcs : cs.extract k (k + cs'.size) = cs') (hi : (P.info? ty).map (·.size) = some cs'.size)
  (h : K (a.put o.dst (.agg cs')) w) : o.wp P a w K Q := by
 have hrange : w.rangeAt g k cs'.toList := by
  have := World.rangeAt_of_block hr.row k cs'.size
  rwa [hcs] at this
 refine wp_load_mid ty x ho g k hx cs'.toList d hrange hu hd (by simpa using hi) ?_
 simpa using h
end
end Go.Proofs.YtamldhflkfbdnaaGreatDoor.Rw
namespace Go.Proofs.YtamldhflkfbdnaaGreatDoor.Tmr
open Go.ChangeShapes Go.WideShapes Go.RowKit Base Num

def inn (n lo hi : Int) : Bool := decide (lo ≤ n) && decide (n ≤ hi)
theorem qU {n lo hi : Int} (h : inn n lo hi = true) : lo ≤ n ∧ n ≤ hi := by simpa [inn] using h
theorem zEm {n lo hi : Int} (h : inn n lo hi = false) : n < lo ∨ hi < n := by
 simp only [inn, Bool.and_eq_false_iff, decide_eq_false_iff_not] at h; omega
theorem in_any (n lo hi : Int) (w : World) :
  Calls Tryz.prog 147 #[.int .i64 n, .int .i64 lo, .int .i64 hi] w fun e w' => e = .returned (.bool (inn n lo hi)) ∧ w' = w := by
 by_cases h0 : lo ≤ n
 ·go_enter Tryz.func147, Tryz.ntmps147
  go_wp2
  go_ret
  exact ⟨zT (by simp [inn, h0]), rfl⟩
 ·go_enter Tryz.func147, Tryz.ntmps147
  go_wp2
  go_ret
  exact ⟨zT (by simp [inn]; omega), rfl⟩

structure Tm where
 c : Int
 v : Int
 s : Int
 m : Int
def Tm.val (t : Tm) : Value := .agg #[.int .i64 t.c, .int .i64 t.v, .int .i64 t.s, .int .i64 t.m]
def Tm.nul : Tm := ⟨0, 0, 0, 0⟩
def clk (n : Int) : Bool := inn n 0 1000000000
def mok (n : Int) : Bool := inn n 0 7
def Tm.ok (t : Tm) : Bool := clk t.c && bok t.v && bok t.s && mok t.m
def rate (m : Int) : Int := if m = 4 then 16 else if m = 5 then 32 else if m = 6 then 64 else if m = 7 then 128 else 0
def tick (s : Int) (x : Int × Int) : Int × Int := if x.1 + 1 = 256 then (s, x.2 + 1) else (x.1 + 1, x.2)
def jU (s : Int) : Nat → Int × Int → Int × Int
 | 0, x => x
 | k + 1, x => jU s k (tick s x)
def jV (c n r : Int) : Int := if r = 0 then 0 else (c + n) / r - c / r
def Tm.may (t : Tm) (n : Int) : Bool := t.ok && inn n 0 100000 && decide (t.c + n ≤ 1000000000)
def Tm.after (t : Tm) (n : Int) : Tm × Int :=
 if t.may n then (⟨t.c + n, (jU t.s (jV t.c n (rate t.m)).toNat (t.v, 0)).1, t.s, t.m⟩, (jU t.s (jV t.c n (rate t.m)).toNat (t.v, 0)).2) else (Tm.nul, 0)

theorem zHj (s : Int) (hs : 0 ≤ s ∧ s ≤ 255) : ∀ (k : Nat) (v r : Int), 0 ≤ v ∧ v ≤ 255 → 0 ≤ (jU s k (v, r)).1 ∧ (jU s k (v, r)).1 ≤ 255
 | 0, v, r, h => h
 | k + 1, v, r, h => by
  simp only [jU, tick]
  split
  ·exact zHj s hs k _ _ hs
  ·exact zHj s hs k _ _ (by omega)
theorem zHk (s : Int) (hs : 0 ≤ s ∧ s ≤ 255) : ∀ (k : Nat) (v r : Int), 0 ≤ v ∧ v ≤ 255 →
  jU s k (v, r) = if v + k - 256 < 0 then (v + k, r) else (s + (v + k - 256) % (256 - s), r + 1 + (v + k - 256) / (256 - s))
 | 0, v, r, h => by
  rw [if_pos (by omega)]
  simp [jU]
 | k + 1, v, r, h => by
  simp only [jU, tick]
  split
  ·rename_i hv
   rw [zHk s hs k s (r + 1) hs]
   split
   ·rw [if_neg (by omega)]
    have e : v + ((k + 1 : Nat) : Int) - 256 = k := by omega
    rw [e, Int.emod_eq_of_lt (by omega) (by omega), Int.ediv_eq_zero_of_lt (by omega) (by omega)]
    simp
   ·rw [if_neg (by omega)]
    have e : v + ((k + 1 : Nat) : Int) - 256 = (s + k - 256) + (256 - s) := by omega
    rw [e, Int.add_emod_right, Int.add_ediv_of_dvd_right (Int.dvd_refl _), Int.ediv_self (by omega)]
    simp only [Prod.mk.injEq, true_and]; omega
  ·rw [zHk s hs k (v + 1) r (by omega)]
   have e : v + 1 + (k : Int) = v + ((k + 1 : Nat) : Int) := by omega
   rw [e]
theorem zO1 (m : Int) : rate m = 0 ∨ rate m = 16 ∨ rate m = 32 ∨ rate m = 64 ∨ rate m = 128 := by
 unfold rate; split
 ·omega
 ·split
  ·omega
  ·split
   ·omega
   ·split <;> omega

theorem zIp {n : Int} (h : clk n = true) : 0 ≤ n ∧ n ≤ 1000000000 := qU h
theorem zRf {n : Int} (h : mok n = true) : 0 ≤ n ∧ n ≤ 7 := qU h
theorem Tm.ok_true {t : Tm} (h : t.ok = true) : (0 ≤ t.c ∧ t.c ≤ 1000000000) ∧ (0 ≤ t.v ∧ t.v ≤ 255) ∧ (0 ≤ t.s ∧ t.s ≤ 255) ∧ (0 ≤ t.m ∧ t.m ≤ 7) := by
 simp only [Tm.ok, Bool.and_eq_true] at h
 exact ⟨zIp h.1.1.1, xG h.1.1.2, xG h.1.2, zRf h.2⟩
theorem Tm.ok_mk {t : Tm} (hc : 0 ≤ t.c ∧ t.c ≤ 1000000000) (hv : 0 ≤ t.v ∧ t.v ≤ 255) (hs : 0 ≤ t.s ∧ t.s ≤ 255) (hm : 0 ≤ t.m ∧ t.m ≤ 7) : t.ok = true := by
 simp [Tm.ok, clk, mok, inn, bok, hc, hv, hs, hm]
theorem jP (n : Int) (w : World) :
  Calls Tryz.prog 164 #[.int .i64 n] w fun e w' => e = .returned (.bool (clk n)) ∧ w' = w := by
 by_cases h0 : 0 ≤ n
 ·go_enter Tryz.func164, Tryz.ntmps164
  go_wp2
  go_ret
  exact ⟨zT (by simp [clk, inn, h0]), rfl⟩
 ·go_enter Tryz.func164, Tryz.ntmps164
  go_wp2
  go_ret
  exact ⟨zT (by simp [clk, inn]; omega), rfl⟩
set_option maxHeartbeats 2000000 in
theorem zAd (t : Tm) (w : World) :
  Calls Tryz.prog 86 #[t.val] w fun e w' => e = .returned (.bool t.ok) ∧ Below w.heap.size w w' := by
 obtain ⟨c, v, s, m⟩ := t
 have hok : (Tm.mk c v s m).ok = (clk c && bok v && bok s && mok m) := rfl
 rw [hok]
 show Calls Tryz.prog 86 #[.agg #[.int .i64 c, .int .i64 v, .int .i64 s, .int .i64 m]] w _
 go_enter Tryz.func86, Tryz.ntmps86
 go_wp2_with (first
  | (go_at_call 164; refine (jP _ _).mono ?_; rintro e w1 ⟨rfl, rfl⟩; generalize hc : clk _ = r; cases r)
  | (go_at_call 84; refine (qL _ _).mono ?_; rintro e w1 ⟨rfl, rfl⟩; generalize hc : bok _ = r; cases r))
 all_goals go_ret
 all_goals exact ⟨zT (by simp [mok, inn, *] <;> omega), (Below.refl _ _).alloc (Nat.le_refl _) _⟩
set_option maxHeartbeats 2000000 in
theorem zAc (t : Tm) (w : World) :
  Calls Tryz.prog 148 #[t.val] w fun e w' => e = .returned (.bool t.ok) ∧ Below w.heap.size w w' := by
 obtain ⟨c, v, s, m⟩ := t
 have hok : (Tm.mk c v s m).ok = (inn c 0 1000000000 && bok v && bok s && inn m 0 7) := rfl
 rw [hok]
 show Calls Tryz.prog 148 #[.agg #[.int .i64 c, .int .i64 v, .int .i64 s, .int .i64 m]] w _
 go_enter Tryz.func148, Tryz.ntmps148
 go_wp2_with (first
  | (go_at_call 147; refine (in_any _ _ _ _).mono ?_; rintro e w1 ⟨rfl, rfl⟩; generalize hc : inn _ _ _ = r; cases r)
  | (go_at_call 146; refine (xB _ _).mono ?_; rintro e w1 ⟨rfl, rfl⟩; generalize hc : bok _ = r; cases r))
 all_goals go_ret
 all_goals exact ⟨zT (by simp [*]), (Below.refl _ _).alloc (Nat.le_refl _) _⟩
open Slc
theorem zLo (m : Int) (w : World) :
  Calls Tryz.prog 215 #[.int .i64 m] w fun e w' => e = .returned (.int .i64 (rate m)) ∧ w' = w := by
 by_cases h4 : m = 4
 ·subst h4
  go_enter Tryz.func215, Tryz.ntmps215
  go_wp2
  go_ret
  exact ⟨rfl, rfl⟩
 by_cases h5 : m = 5
 ·subst h5
  go_enter Tryz.func215, Tryz.ntmps215
  go_wp2
  go_ret
  exact ⟨rfl, rfl⟩
 by_cases h6 : m = 6
 ·subst h6
  go_enter Tryz.func215, Tryz.ntmps215
  go_wp2
  go_ret
  exact ⟨rfl, rfl⟩
 by_cases h7 : m = 7
 ·subst h7
  go_enter Tryz.func215, Tryz.ntmps215
  go_wp2
  go_ret
  exact ⟨rfl, rfl⟩
 have e : rate m = 0 := by simp [rate, h4, h5, h6, h7]
 rw [e]
 go_enter Tryz.func215, Tryz.ntmps215
 go_wp2
 go_ret
 exact ⟨rfl, rfl⟩
theorem zGm (m : Int) (w : World) :
  Calls Tryz.prog 226 #[.int .i64 m] w fun e w' => e = .returned (.int .i64 (rate m)) ∧ w' = w := by
 cases h : inn m 4 7
 ·have h0 := zEm h
  have e : rate m = 0 := by unfold rate; split; omega; split; omega; split; omega; split <;> omega
  rw [e]
  go_enter Tryz.func226, Tryz.ntmps226
  go_wp2_with (go_at_call 147; refine (in_any _ _ _ _).mono ?_; rintro e w1 ⟨rfl, rfl⟩; rw [h])
  go_ret
  exact ⟨rfl, rfl⟩
 ·have h0 := qU h
  obtain rfl | rfl | rfl | rfl : m = 4 ∨ m = 5 ∨ m = 6 ∨ m = 7 := by omega
  all_goals
   go_enter Tryz.func226, Tryz.ntmps226
   go_wp2_with (go_at_call 147; refine (in_any _ _ _ _).mono ?_; rintro e w1 ⟨rfl, rfl⟩; rw [h])
   go_ret
   exact ⟨rfl, rfl⟩
theorem zFe {a r : Int} (ha : 0 ≤ a) : a.tdiv r = a / r := Int.tdiv_eq_ediv_of_nonneg ha
theorem zTt {a r : Int} (ha : 0 ≤ a) : a.tmod r = a % r := Int.tmod_eq_emod_of_nonneg ha
theorem zH2 (c n r : Int) (hc : 0 ≤ c) (hn : 0 ≤ n) (hr : r = 0 ∨ 0 < r) : 0 ≤ jV c n r ∧ jV c n r ≤ n := by
 unfold jV
 split
 ·omega
 ·rename_i h
  have hr : 0 < r := by omega
  have h1 : c / r ≤ (c + n) / r := Int.ediv_le_ediv hr (by omega)
  have h2 : (c + n) / r ≤ c / r + n := by
   have h3 : (c + n) / r ≤ (c + n * r) / r := Int.ediv_le_ediv hr (by
    have : n * 1 ≤ n * r := Int.mul_le_mul_of_nonneg_left (by omega) hn
    omega)
   rwa [Int.add_mul_ediv_right _ _ (by omega)] at h3
  omega
theorem zF5 (c n r : Int) (w : World) (hc : 0 ≤ c) (hn : 0 ≤ n) (hcn : c + n ≤ 1000000000) (hr : r = 0 ∨ 0 < r) :
  Calls Tryz.prog 214 #[.int .i64 c, .int .i64 n, .int .i64 r] w fun e w' => e = .returned (.int .i64 (jV c n r)) ∧ ∃ k, w' = w.drewN k := by
 by_cases h0 : r = 0
 ·have e : jV c n r = 0 := by simp [jV, h0]
  rw [e]
  go_enter Tryz.func214, Tryz.ntmps214
  go_wp2
  go_ret
  exact ⟨rfl, 0, rfl⟩
 ·have e : jV c n r = (c + n) / r - c / r := by simp [jV, h0]
  have hin := zH2 c n r hc hn hr
  rw [e] at hin ⊢
  have q1 := zFe (a := c + n) (r := r) (by omega)
  have q2 := zFe (a := c) (r := r) (by omega)
  have d1 : 0 ≤ (c + n) / r := Int.ediv_nonneg (by omega) (by omega)
  have d2 : (c + n) / r ≤ c + n := Int.ediv_le_self _ (by omega)
  have d3 : 0 ≤ c / r := Int.ediv_nonneg (by omega) (by omega)
  have d4 : c / r ≤ c := Int.ediv_le_self _ (by omega)
  go_enter Tryz.func214, Tryz.ntmps214
  go_wp2
  go_quiet (fail)
  go_wp2
  go_ret
  exact ⟨rfl, _, rfl⟩
theorem zLp (v s : Int) (k : Nat) (w : World) (hv : 0 ≤ v ∧ v ≤ 255) (hs : 0 ≤ s ∧ s ≤ 255) (hk : (k : Int) ≤ 100000) :
  Calls Tryz.prog 216 #[.int .i64 v, .int .i64 s, .int .i64 (k : Int)] w fun e w' => e = .returned (.tuple #[.int .i64 (jU s k (v, 0)).1, .int .i64 (jU s k (v, 0)).2]) ∧ ∃ k, w' = w.drewN k := by
 rw [zHk s hs k v 0 hv]
 by_cases h0 : v + k - 256 < 0
 ·rw [if_pos h0]
  go_enter Tryz.func216, Tryz.ntmps216
  go_wp2
  go_ret2
  exact ⟨rfl, 0, rfl⟩
 ·rw [if_neg h0]
  have q1 := zFe (a := v + k - 256) (r := 256 - s) (by omega)
  have q2 := zTt (a := v + k - 256) (r := 256 - s) (by omega)
  have d1 : 0 ≤ (v + k - 256) / (256 - s) := Int.ediv_nonneg (by omega) (by omega)
  have d2 : (v + k - 256) / (256 - s) ≤ v + k - 256 := Int.ediv_le_self _ (by omega)
  have d3 : 0 ≤ (v + k - 256) % (256 - s) := Int.emod_nonneg _ (by omega)
  have d4 : (v + k - 256) % (256 - s) < 256 - s := Int.emod_lt_of_pos _ (by omega)
  have hne : ¬ (256 - s = 0) := by omega
  go_enter Tryz.func216, Tryz.ntmps216
  go_wp2
  go_quiet (fail)
  go_wp2
  go_ret2
  exact ⟨by simp, _, rfl⟩
open Rw
theorem zAm : Tryz.prog.underlying 26 = some (.struct #[{ name := "Count", type := 2, offset := 0, embedded := false, tag := "", pkgPath := "", byteOffset := 0 }, { name := "Value", type := 2, offset := 1, embedded := false, tag := "", pkgPath := "", byteOffset := 8 }, { name := "Start", type := 2, offset := 2, embedded := false, tag := "", pkgPath := "", byteOffset := 16 }, { name := "Mode", type := 2, offset := 3, embedded := false, tag := "", pkgPath := "", byteOffset := 24 }]) := by kernel_rfl
theorem jI : (Tryz.prog.info? 26).map (·.size) = some 4 := by kernel_rfl

section
variable {ops : Array Oper} {rest : List Oper} {o : Oper} {a : Act} {w : World} {Q : Exit → Act → World → Prop} {x y : Operand} {g : Nat} {c v s m : Int} {T : TypeId} {old : Array Value}
theorem zCc (hgd : o.guard = none) (ho : o.op = .store 26 x y) (hx : a.eval x = .pointer (some ⟨g, 0, none⟩)) (hy : a.eval y = .agg #[.int .i64 c, .int .i64 v, .int .i64 s, .int .i64 m]) (hr : Row w g old T) (hold : old.size = 4)
  (h : ∀ w', Row w' g #[.int .i64 c, .int .i64 v, .int .i64 s, .int .i64 m] T → Onto g w w' → w'.heap.size = w.heap.size → wpList Tryz.prog ops Q rest (a.put o.dst undef) w') : wpList Tryz.prog ops Q (o :: rest) a w :=
 zBf hgd _ x y ho hx hy hr jI hold (by simp [Value.oneCell']) h
end
theorem Tm.after_no {t : Tm} {n : Int} (h : t.may n = false) : t.after n = (Tm.nul, 0) := by simp [Tm.after, h]
theorem Tm.may_false {t : Tm} {n : Int} (h : t.may n = false) (h1 : t.ok = true) (h2 : inn n 0 100000 = true) : 1000000000 < t.c + n := by
 simp only [Tm.may, h1, h2, Bool.true_and, decide_eq_false_iff_not] at h; omega

set_option maxHeartbeats 1000000 in
theorem zI1 (t : Tm) (n : Int) (w : World) (hm : t.may n = false) :
  Calls Tryz.prog 144 #[t.val, .int .i64 n] w fun e w' => e = .returned (.tuple #[Tm.nul.val, .int .i64 0]) ∧ Below w.heap.size w w' := by
 have hA := fun h1 h2 => Tm.may_false hm h1 h2
 obtain ⟨c, v, s, m⟩ := t
 show Calls Tryz.prog 144 #[.agg #[.int .i64 c, .int .i64 v, .int .i64 s, .int .i64 m], .int .i64 n] w _
 cases hok : (Tm.mk c v s m).ok
 ·go_enter Tryz.func144, Tryz.ntmps144
  go_wp2_with (first
   | (go_at_call 86; refine (zAd ⟨c, v, s, m⟩ _).mono ?_; rintro e w1 ⟨rfl, hb⟩; rw [hok]; obtain ⟨r1, r2, hB⟩ := box2 hb)
   | (refine zCc rfl rfl rfl rfl r2 rfl ?_; intro w2 r3 ho2 hs2))
  refine qN rfl rfl r3 zAm rfl jI rfl rfl ?_
  exact ⟨rfl, zA hB ho2 (by omega)⟩
 ·obtain ⟨hc, hv, hs, hmm⟩ := Tm.ok_true hok
  simp only at hc hv hs hmm
  cases hi : inn n 0 100000
  ·have hi' := zEm hi
   by_cases h0 : n < 0
   ·go_enter Tryz.func144, Tryz.ntmps144
    go_wp2_with (first
     | (go_at_call 86; refine (zAd ⟨c, v, s, m⟩ _).mono ?_; rintro e w1 ⟨rfl, hb⟩; rw [hok]; obtain ⟨r1, r2, hB⟩ := box2 hb)
     | (refine zCc rfl rfl rfl rfl r2 rfl ?_; intro w2 r3 ho2 hs2))
    refine qN rfl rfl r3 zAm rfl jI rfl rfl ?_
    exact ⟨rfl, zA hB ho2 (by omega)⟩
   ·have h1 : 100000 < n := by omega
    go_enter Tryz.func144, Tryz.ntmps144
    go_wp2_with (first
     | (go_at_call 86; refine (zAd ⟨c, v, s, m⟩ _).mono ?_; rintro e w1 ⟨rfl, hb⟩; rw [hok]; obtain ⟨r1, r2, hB⟩ := box2 hb)
     | (refine zCc rfl rfl rfl rfl r2 rfl ?_; intro w2 r3 ho2 hs2))
    refine qN rfl rfl r3 zAm rfl jI rfl rfl ?_
    exact ⟨rfl, zA hB ho2 (by omega)⟩
  ·have hi' := qU hi
   have h2 := hA hok hi
   simp only at h2
   have hk : clk (c + n) = false := by simp [clk, inn]; omega
   clear hm hA hi
   go_enter Tryz.func144, Tryz.ntmps144
   go_wp2_with (first
    | (go_at_call 86; refine (zAd ⟨c, v, s, m⟩ _).mono ?_; rintro e w1 ⟨rfl, hb⟩; rw [hok]; obtain ⟨r1, r2, hB⟩ := box2 hb; have c1 := r1.cell)
    | (go_at_call 164; refine (jP _ _).mono ?_; rintro e w1 ⟨rfl, rfl⟩; rw [hk])
    | (refine zCc rfl rfl rfl rfl r2 rfl ?_; intro w2 r3 ho2 hs2))
   refine qN rfl rfl r3 zAm rfl jI rfl rfl ?_
   exact ⟨rfl, zA hB ho2 (by omega)⟩
theorem Tm.may_true {t : Tm} {n : Int} (h : t.may n = true) : t.ok = true ∧ (0 ≤ n ∧ n ≤ 100000) ∧ t.c + n ≤ 1000000000 := by
 simp only [Tm.may, Bool.and_eq_true, decide_eq_true_eq] at h
 exact ⟨h.1.1, qU h.1.2, h.2⟩
theorem zEg (m : Int) : rate m = 0 ∨ 0 < rate m := by rcases zO1 m with h | h | h | h | h <;> omega
set_option maxHeartbeats 1000000 in
theorem zHh (t : Tm) (n : Int) (w : World) (hm : t.may n = true) :
  Calls Tryz.prog 144 #[t.val, .int .i64 n] w fun e w' => e = .returned (.tuple #[.agg #[.int .i64 (t.c + n), .int .i64 (jU t.s (jV t.c n (rate t.m)).toNat (t.v, 0)).1, .int .i64 t.s, .int .i64 t.m], .int .i64 (jU t.s (jV t.c n (rate t.m)).toNat (t.v, 0)).2]) ∧ Below w.heap.size w w' := by
 obtain ⟨hok, hn, hcn⟩ := Tm.may_true hm
 obtain ⟨c, v, s, m⟩ := t
 obtain ⟨hc, hv, hs, hmm⟩ := Tm.ok_true hok
 simp only at hc hv hs hmm hcn ⊢
 have hk : clk (c + n) = true := by simp [clk, inn]; omega
 have hM := zH2 c n (rate m) hc.1 hn.1 (zEg m)
 obtain ⟨k, hk'⟩ : ∃ k : Nat, jV c n (rate m) = (k : Int) := ⟨(jV c n (rate m)).toNat, by omega⟩
 have hk2 : (k : Int) ≤ 100000 := by omega
 have hkt : ((k : Int)).toNat = k := by omega
 rw [hk', hkt]
 have hR := fun w' => zLp v s k w' hv hs hk2
 generalize jU s k (v, 0) = tk at hR ⊢
 show Calls Tryz.prog 144 #[.agg #[.int .i64 c, .int .i64 v, .int .i64 s, .int .i64 m], .int .i64 n] w _
 go_enter Tryz.func144, Tryz.ntmps144
 go_wp2_with (first
  | (go_at_call 86; refine (zAd ⟨c, v, s, m⟩ _).mono ?_; rintro e w1 ⟨rfl, hb⟩; rw [hok]; obtain ⟨r1, r2, hB⟩ := box2 hb; have c1 := r1.cell)
  | (go_at_call 164; refine (jP _ _).mono ?_; rintro e w1 ⟨rfl, rfl⟩; rw [hk]))
 go_quiet ((first | (go_at_call 215; refine Calls.quiet_of_same (zLo _ _)) | (go_at_call 214; refine Calls.quiet_of (zF5 _ _ _ _ hc.1 hn.1 hcn (zEg m)))))
 rw [hk']
 have R1 := r1.drewN nq
 have R2 := r2.drewN nq
 have hB' := below_drewN hB nq
 have f1 := R1.free
 clear r1 r2 hB hb
 go_wp2_with fail
 go_at_call 216
 refine (hR _).mono ?_
 rintro e w2 ⟨rfl, j, rfl⟩
 have q1 := (R1.set 0 (.int .i64 (c + n))).drewN j
 have q2 := (R2.setOther ⟨w.heap.size, 0, none⟩ (.int .i64 (c + n)) (by simp)).drewN j
 have hB2 := below_drewN (hB'.setCell (p := ⟨w.heap.size, 0, none⟩) (Nat.le_refl _) (.int .i64 (c + n))) j
 generalize ((w1.drewN nq).setCell ⟨w.heap.size, 0, none⟩ (.int .i64 (c + n))).drewN j = w3 at *
 simp only [List.setIfInBounds_toArray, List.set_cons_zero] at q1
 clear R1 R2 f1 c1 hB'
 have f1 := q1.free
 have c1 := q1.cell
 clear hR
 go_wp2_with (refine zCc rfl rfl rfl rfl (q2.setOther ⟨w.heap.size, 1, none⟩ (.int .i64 tk.1) (by simp)) rfl ?_; intro w4 r4 ho4 hs4)
 refine qN rfl rfl r4 zAm rfl jI rfl rfl ?_
 exact ⟨rfl, zA (hB2.setCell (p := ⟨w.heap.size, 1, none⟩) (Nat.le_refl _) (.int .i64 tk.1)) ho4 (by omega)⟩
theorem zDl (t : Tm) (n : Int) (w : World) :
  Calls Tryz.prog 144 #[t.val, .int .i64 n] w fun e w' => e = .returned (.tuple #[(t.after n).1.val, .int .i64 (t.after n).2]) ∧ Below w.heap.size w w' := by
 cases hm : t.may n
 ·rw [Tm.after_no hm]
  exact zI1 t n w hm
 ·have e : t.after n = (⟨t.c + n, (jU t.s (jV t.c n (rate t.m)).toNat (t.v, 0)).1, t.s, t.m⟩, (jU t.s (jV t.c n (rate t.m)).toNat (t.v, 0)).2) := by simp [Tm.after, hm]
  rw [e]
  exact zHh t n w hm
set_option maxHeartbeats 1000000 in
theorem zHi (t : Tm) (n : Int) (w : World) (hm : t.may n = false) :
  Calls Tryz.prog 153 #[t.val, .int .i64 n] w fun e w' => e = .returned (.tuple #[Tm.nul.val, .int .i64 0]) ∧ Below w.heap.size w w' := by
 have hA := fun h1 h2 => Tm.may_false hm h1 h2
 obtain ⟨c, v, s, m⟩ := t
 show Calls Tryz.prog 153 #[.agg #[.int .i64 c, .int .i64 v, .int .i64 s, .int .i64 m], .int .i64 n] w _
 cases hok : (Tm.mk c v s m).ok
 ·go_enter Tryz.func153, Tryz.ntmps153
  go_wp2_with (first
   | (go_at_call 148; refine (zAc ⟨c, v, s, m⟩ _).mono ?_; rintro e w1 ⟨rfl, hb⟩; rw [hok]; obtain ⟨r1, r2, hB⟩ := box2 hb)
   | (refine zCc rfl rfl rfl rfl r2 rfl ?_; intro w2 r3 ho2 hs2))
  refine qN rfl rfl r3 zAm rfl jI rfl rfl ?_
  exact ⟨rfl, zA hB ho2 (by omega)⟩
 ·obtain ⟨hc, hv, hs, hmm⟩ := Tm.ok_true hok
  simp only at hc hv hs hmm
  cases hi : inn n 0 100000
  ·go_enter Tryz.func153, Tryz.ntmps153
   go_wp2_with (first
    | (go_at_call 148; refine (zAc ⟨c, v, s, m⟩ _).mono ?_; rintro e w1 ⟨rfl, hb⟩; rw [hok]; obtain ⟨r1, r2, hB⟩ := box2 hb)
    | (go_at_call 147; refine (in_any _ _ _ _).mono ?_; rintro e w1 ⟨rfl, rfl⟩; rw [hi])
    | (refine zCc rfl rfl rfl rfl r2 rfl ?_; intro w2 r3 ho2 hs2))
   refine qN rfl rfl r3 zAm rfl jI rfl rfl ?_
   exact ⟨rfl, zA hB ho2 (by omega)⟩
  ·have hi' := qU hi
   have h2 := hA hok hi
   simp only at h2
   clear hm hA
   go_enter Tryz.func153, Tryz.ntmps153
   go_wp2_with (first
    | (go_at_call 148; refine (zAc ⟨c, v, s, m⟩ _).mono ?_; rintro e w1 ⟨rfl, hb⟩; rw [hok]; obtain ⟨r1, r2, hB⟩ := box2 hb; have c1 := r1.cell)
    | (go_at_call 147; refine (in_any _ _ _ _).mono ?_; rintro e w1 ⟨rfl, rfl⟩; rw [hi])
    | (refine zCc rfl rfl rfl rfl r2 rfl ?_; intro w2 r3 ho2 hs2))
   refine qN rfl rfl r3 zAm rfl jI rfl rfl ?_
   exact ⟨rfl, zA hB ho2 (by omega)⟩
set_option maxHeartbeats 1000000 in
theorem zG1 (t : Tm) (n : Int) (w : World) (hm : t.may n = true) :
  Calls Tryz.prog 153 #[t.val, .int .i64 n] w fun e w' => e = .returned (.tuple #[.agg #[.int .i64 (t.c + n), .int .i64 (jU t.s (jV t.c n (rate t.m)).toNat (t.v, 0)).1, .int .i64 t.s, .int .i64 t.m], .int .i64 (jU t.s (jV t.c n (rate t.m)).toNat (t.v, 0)).2]) ∧ Below w.heap.size w w' := by
 obtain ⟨hok, hn, hcn⟩ := Tm.may_true hm
 obtain ⟨c, v, s, m⟩ := t
 obtain ⟨hc, hv, hs, hmm⟩ := Tm.ok_true hok
 simp only at hc hv hs hmm hcn ⊢
 have hi : inn n 0 100000 = true := by simp [inn]; omega
 have hM := zH2 c n (rate m) hc.1 hn.1 (zEg m)
 obtain ⟨k, hk'⟩ : ∃ k : Nat, jV c n (rate m) = (k : Int) := ⟨(jV c n (rate m)).toNat, by omega⟩
 have hk2 : (k : Int) ≤ 100000 := by omega
 have hkt : ((k : Int)).toNat = k := by omega
 rw [hk', hkt]
 show Calls Tryz.prog 153 #[.agg #[.int .i64 c, .int .i64 v, .int .i64 s, .int .i64 m], .int .i64 n] w _
 rcases zEg m with hr | hr
 ·have hk0 : k = 0 := by rw [hr] at hk'; simp [jV] at hk'; omega
  subst hk0
  show Calls Tryz.prog 153 #[.agg #[.int .i64 c, .int .i64 v, .int .i64 s, .int .i64 m], .int .i64 n] w fun e w' => e = .returned (.tuple #[.agg #[.int .i64 (c + n), .int .i64 v, .int .i64 s, .int .i64 m], .int .i64 0]) ∧ Below w.heap.size w w'
  go_enter Tryz.func153, Tryz.ntmps153
  go_wp2_with (first
    | (go_at_call 148; refine (zAc ⟨c, v, s, m⟩ _).mono ?_; rintro e w1 ⟨rfl, hb⟩; rw [hok]; obtain ⟨r1, r2, hB⟩ := box2 hb; have c1 := r1.cell; have l1 := r1.lt; have l2 := r2.lt)
    | (go_at_call 147; refine (in_any _ _ _ _).mono ?_; rintro e w1 ⟨rfl, rfl⟩; rw [hi])
    | (go_at_call 226; refine (zGm _ _).mono ?_; rintro e w1 ⟨rfl, rfl⟩; rw [hr])
    | (refine zCc rfl rfl rfl rfl (r2.alloc _) rfl ?_; intro w2 r3 ho2 hs2))
  refine qN rfl rfl r3 zAm rfl jI rfl rfl ?_
  exact ⟨rfl, zA (hB.alloc hB.size _) ho2 (by omega)⟩
 ·have e : jV c n (rate m) = (c + n) / rate m - c / rate m := by unfold jV; rw [if_neg (by omega)]
  rw [e] at hk' hM
  generalize hR : rate m = R at *
  have q1 := zFe (a := c + n) (r := R) (by omega)
  have q2 := zFe (a := c) (r := R) (by omega)
  have d1 : 0 ≤ (c + n) / R := Int.ediv_nonneg (by omega) (by omega)
  have d2 : (c + n) / R ≤ c + n := Int.ediv_le_self _ (by omega)
  have d3 : 0 ≤ c / R := Int.ediv_nonneg (by omega) (by omega)
  have d4 : c / R ≤ c := Int.ediv_le_self _ (by omega)
  have hne : ¬ R = 0 := by omega
  generalize htk : jU s k (v, 0) = tk
  go_enter Tryz.func153, Tryz.ntmps153
  go_wp2_with (first
    | (go_at_call 148; refine (zAc ⟨c, v, s, m⟩ _).mono ?_; rintro e w1 ⟨rfl, hb⟩; rw [hok]; obtain ⟨r1, r2, hB⟩ := box2 hb; have c1 := r1.cell; have l1 := r1.lt; have l2 := r2.lt)
    | (go_at_call 147; refine (in_any _ _ _ _).mono ?_; rintro e w1 ⟨rfl, rfl⟩; rw [hi])
    | (go_at_call 226; refine (zGm _ _).mono ?_; rintro e w1 ⟨rfl, rfl⟩; rw [hR]))
  go_quiet (fail)
  have R7 := (Row.new w1 #[.int .i64 (c + n), .int .i64 v, .int .i64 s, .int .i64 m] 26).drewN nq
  have R1 := (r1.alloc (.cells #[.int .i64 (c + n), .int .i64 v, .int .i64 s, .int .i64 m] 26)).drewN nq
  have R2 := (r2.alloc (.cells #[.int .i64 (c + n), .int .i64 v, .int .i64 s, .int .i64 m] 26)).drewN nq
  have hB7 := below_drewN (hB.alloc hB.size (.cells #[.int .i64 (c + n), .int .i64 v, .int .i64 s, .int .i64 m] 26)) nq
  have hsz := hB.size
  clear hb r1 r2 hB c1
  go_wp2_with fail
  go_loopw [8, 9] (fun r kk wr => ∃ (j : Nat) (v' r' : Int), r = .int .i64 r' ∧ kk = .int .i64 (j : Int) ∧ Row wr w1.heap.size #[.int .i64 (c + n), .int .i64 v', .int .i64 s, .int .i64 m] 26 ∧
    Row wr w.heap.size #[.int .i64 c, .int .i64 v, .int .i64 s, .int .i64 m] 26 ∧ Row wr (w.heap.size + 1) #[.int .i64 0, .int .i64 0, .int .i64 0, .int .i64 0] 26 ∧ Below w.heap.size w wr ∧
    jU s j (v', r') = tk ∧ (0 ≤ v' ∧ v' ≤ 255) ∧ (0 ≤ r' ∧ r' + j ≤ 100000)) (fun _ kk _ => (intOf kk).toNat)
  case atStart => exact ⟨k, v, 0, rfl, rfl, R7, R1, R2, hB7, htk, hv, by omega⟩
  case round =>
   obtain ⟨j, v', r', rfl, rfl, x7, x1, x2, hBr, ht, hv', hr'⟩ := hrel
   clear R7 R1 R2 hB7 htk hk' e q1 q2 d1 d2 d3 d4 hM
   have c7 := x7.cell
   have c1 := x1.cell
   have f7 := x7.free
   rcases j with _ | j
   ·go_wp2_with (refine zCc rfl rfl rfl rfl x2 rfl ?_; intro w2 r3 ho2 hs2)
    refine qN rfl rfl r3 zAm rfl jI rfl rfl ?_
    have ht' : (v', r') = tk := ht
    subst ht'
    exact ⟨rfl, zA hBr ho2 (by omega)⟩
   ·have HT : Hid (jU s (j + 1) (v', r') = tk) := ht
    clear ht
    have hj : (0 : Int) < ((j + 1 : Nat) : Int) := by omega
    by_cases h6 : v' + 1 = 256
    ·go_wp2
     go_roundw
     case rel =>
      refine ⟨j, s, r' + 1, rfl, by simp, by simpa using (x7.set 1 (.int .i64 256)).set 1 (.int .i64 s), (x1.setOther _ _ ?_).setOther _ _ ?_, (x2.setOther _ _ ?_).setOther _ _ ?_, (hBr.setCell (p := ⟨w1.heap.size, 1, none⟩) hsz _).setCell (p := ⟨w1.heap.size, 1, none⟩) hsz _, ?_, hs, by omega⟩
      all_goals (try (simp; omega))
      have := HT.out
      simpa [jU, tick, h6] using this
     case measure => simp [intOf]
    ·go_wp2
     go_roundw
     case rel =>
      refine ⟨j, v' + 1, r', rfl, by simp, by simpa using x7.set 1 (.int .i64 (v' + 1)), x1.setOther _ _ ?_, x2.setOther _ _ ?_, hBr.setCell (p := ⟨w1.heap.size, 1, none⟩) hsz _, ?_, by omega, by omega⟩
      all_goals (try (simp; omega))
      have := HT.out
      simpa [jU, tick, h6] using this
     case measure => simp [intOf]
theorem jL (t : Tm) (n : Int) (w : World) :
  Calls Tryz.prog 153 #[t.val, .int .i64 n] w fun e w' => e = .returned (.tuple #[(t.after n).1.val, .int .i64 (t.after n).2]) ∧ Below w.heap.size w w' := by
 cases hm : t.may n
 ·rw [Tm.after_no hm]
  exact zHi t n w hm
 ·have e : t.after n = (⟨t.c + n, (jU t.s (jV t.c n (rate t.m)).toNat (t.v, 0)).1, t.s, t.m⟩, (jU t.s (jV t.c n (rate t.m)).toNat (t.v, 0)).2) := by simp [Tm.after, hm]
  rw [e]
  exact zG1 t n w hm

def Tm.eq (t u : Tm) : Bool := t.c == u.c && t.v == u.v && t.s == u.s && t.m == u.m
end Go.Proofs.YtamldhflkfbdnaaGreatDoor.Tmr
namespace Go.Proofs.YtamldhflkfbdnaaGreatDoor.Mem
open Go.ChangeShapes Go.WideShapes Go.RowKit Base Num Slc Rw Tmr

structure M3 where
 t : Int
 k : Int
 v : Int
def M3.nul : M3 := ⟨0, 0, 0⟩
def M3.cs (m : M3) : List Value := [.int .i64 m.t, .int .i64 m.k, .int .i64 m.v]
def M3.val (m : M3) : Value := .agg #[.int .i64 m.t, .int .i64 m.k, .int .i64 m.v]
def M3.ok (m : M3) : Bool := inn m.t 0 1000000100 && (if m.k = 1 ∨ m.k = 2 then inn m.v 0 1 else if m.k = 3 then bok m.v else false)
def later (a b : M3) : Bool := decide (b.t < a.t) || (a.t == b.t && decide (b.k < a.k))
def M3.at' (l : List M3) (i : Nat) : M3 := l.getD i M3.nul
def fits (l : List M3) (i : Nat) : Bool := (M3.at' l i).ok && !(decide (0 < i) && later (M3.at' l (i - 1)) (M3.at' l i))
def zCh (l : List M3) (n : Nat) : Bool := (List.range n).all (fits l)
def qH (l : List M3) : Bool := zCh l l.length && decide (l.length ≤ 200)
def jO (l : List M3) (m : M3) : Nat → Nat
 | 0 => 0
 | k + 1 => if later (M3.at' l k) m then jO l m k else k + 1
def zBc (l : List M3) (m : M3) : List M3 := l.take (jO l m l.length) ++ [m] ++ l.drop (jO l m l.length)
def xL (l : List M3) (m : M3) : List M3 × Bool :=
 if qH l then (if decide (200 ≤ l.length) || !m.ok then (l, false) else (zBc l m, true)) else ([], false)
theorem zL0 (a b : M3) : later a b = true → later b a = false := by
 unfold later
 simp only [Bool.or_eq_true, Bool.and_eq_true, beq_iff_eq, decide_eq_true_eq, Bool.or_eq_false_iff, Bool.and_eq_false_iff, beq_eq_false_iff_ne, ne_eq, decide_eq_false_iff_not]
 omega
theorem zD2 (l : List M3) (m : M3) : ∀ k, jO l m k ≤ k
 | 0 => Nat.le_refl _
 | k + 1 => by
  unfold jO
  split
  ·exact Nat.le_trans (zD2 l m k) (Nat.le_succ _)
  ·exact Nat.le_refl _
theorem zD3 (l : List M3) (m : M3) : ∀ k j, jO l m k ≤ j → j < k → later (M3.at' l j) m = true
 | 0, j, _, hj => by omega
 | k + 1, j, h, hj => by
  unfold jO at h
  split at h
  ·rename_i hl
   by_cases e : j = k
   ·rw [e]; exact hl
   ·exact zD3 l m k j h (by omega)
  ·omega
theorem zGc (l : List M3) (m : M3) : ∀ k, 0 < jO l m k → later (M3.at' l (jO l m k - 1)) m = false
 | 0, h => by simp [jO] at h
 | k + 1, h => by
  unfold jO at h ⊢
  split at h
  ·rename_i hl
   rw [if_pos hl]
   exact zGc l m k h
  ·rename_i hl
   rw [if_neg hl]
   simpa using hl
theorem zE7 (l : List M3) (m : M3) : (zBc l m).length = l.length + 1 := by
 have := zD2 l m l.length
 simp [zBc]
 omega
theorem zQf (l : List M3) (m : M3) (i : Nat) : M3.at' (zBc l m) i = if i < jO l m l.length then M3.at' l i else if i = jO l m l.length then m else M3.at' l (i - 1) := by
 have hk := zD2 l m l.length
 obtain ⟨k, hke⟩ : ∃ k, jO l m l.length = k := ⟨_, rfl⟩
 unfold zBc M3.at'
 rw [hke] at hk ⊢
 simp only [List.getD_eq_getElem?_getD]
 by_cases h1 : i < k
 ·rw [if_pos h1, List.append_assoc, List.getElem?_append_left (by simp; omega), List.getElem?_take, if_pos h1]
 rw [if_neg h1]
 by_cases h2 : i = k
 ·rw [if_pos h2, List.append_assoc, List.getElem?_append_right (by simp; omega)]
  have : i - (l.take k).length = 0 := by simp; omega
  rw [this]
  rfl
 ·rw [if_neg h2, List.getElem?_append_right (by simp; omega), List.getElem?_drop]
  congr 2
  simp
  omega
theorem zFn {l : List M3} : qH l = true ↔ (∀ i, i < l.length → (M3.at' l i).ok = true) ∧ (∀ i, i + 1 < l.length → later (M3.at' l i) (M3.at' l (i + 1)) = false) ∧ l.length ≤ 200 := by
 simp only [qH, Bool.and_eq_true, zCh, List.all_eq_true, List.mem_range, fits, decide_eq_true_eq]
 constructor
 ·rintro ⟨h, hn⟩
  refine ⟨fun i hi => (h i hi).1, fun i hi => ?_, hn⟩
  have := (h (i + 1) hi).2
  simpa using this
 ·rintro ⟨h1, h2, hn⟩
  refine ⟨fun i hi => ⟨h1 i hi, ?_⟩, hn⟩
  rcases i with _ | i
  ·simp
  ·have := h2 i hi
   simp [this]
theorem zN1 {l : List M3} {m : M3} (h : qH l = true) (hn : l.length < 200) (hm : m.ok = true) : qH (zBc l m) = true := by
 obtain ⟨h1, h2, _⟩ := zFn.1 h
 have hk := zD2 l m l.length
 have hlat := zD3 l m l.length
 have hnot := zGc l m l.length
 have hg := zQf l m
 have hlen := zE7 l m
 generalize jO l m l.length = k at hk hlat hnot hg
 refine zFn.2 ⟨fun i hi => ?_, fun i hi => ?_, by omega⟩
 ·rw [hg]
  split
  ·exact h1 i (by omega)
  split
  ·exact hm
  ·exact h1 _ (by omega)
 ·rw [hg i, hg (i + 1)]
  by_cases c1 : i + 1 < k
  ·rw [if_pos (by omega), if_pos c1]; exact h2 i (by omega)
  by_cases c2 : i + 1 = k
  ·rw [if_pos (by omega), if_neg c1, if_pos c2]
   have := hnot (by omega)
   rwa [show k - 1 = i by omega] at this
  by_cases c3 : i = k
  ·rw [if_neg (by omega), if_pos c3, if_neg c1, if_neg (by omega), show i + 1 - 1 = i by omega]
   exact zL0 _ _ (hlat i (by omega) (by omega))
  ·rw [if_neg (by omega), if_neg c3, if_neg c1, if_neg (by omega), show i + 1 - 1 = (i - 1) + 1 by omega]
   exact h2 (i - 1) (by omega)
end Go.Proofs.YtamldhflkfbdnaaGreatDoor.Mem
namespace Go.Proofs.YtamldhflkfbdnaaGreatDoor.Reg
open Go.RowKit Base

def deps (o : Oper) : List Nat := (o.after.toList.filter (Region.binds .any)).map (·.on)
def acyc (ops : Array Oper) : Bool := (List.range ops.size).all fun i => match ops[i]? with
 | some o => (deps o).all fun d => decide (d < i)
 | none => true
def zCi (ops : Array Oper) (n : Nat) : Bool := (List.range ops.size).all fun i => match (ops[i]?).bind (·.dst) with
 | some k => decide (k < n) && (List.range ops.size).all fun j => j == i || (ops[j]?).bind (·.dst) != some k
 | none => true

structure Inv (ops : Array Oper) (G : World → Prop) (T : Nat → Value → World → Prop) (a0 : Act) (L : Nat → Bool) (a : Act) (w : World) : Prop where
 g : G w
 defers : a.defers = a0.defers
 size : a.tmps.size = a0.tmps.size
 slot : ∀ j k, (ops[j]?).bind (·.dst) = some k → L j = true → T j (a.tmps.getD k undef) w
 eff : ∀ j o, ops[j]? = some o → o.dst = none → L j = true → ∃ v, T j v w
 rest : ∀ k, (∀ j, L j = true → (ops[j]?).bind (·.dst) ≠ some k) → a.tmps.getD k undef = a0.tmps.getD k undef
 closed : ∀ j o d, ops[j]? = some o → L j = true → d ∈ deps o → L d = true

section
variable {P : Program} {ops : Array Oper} {Q : Exit → Act → World → Prop} {G : World → Prop} {T : Nat → Value → World → Prop} {R : Nat → World → World → Prop} {a0 a : Act} {L : Nat → Bool} {w w' : World} {i : Nat} {o : Oper} {v : Value}

theorem jA (a : Act) (d : Option Tmp) (v : Value) (k : Nat) (h : d ≠ some k) : (a.put d v).tmps.getD k undef = a.tmps.getD k undef := by
 cases d with
 | none => rfl
 | some d =>
  have hd : d ≠ k := fun e => h (by rw [e])
  show (a.tmps.setIfInBounds d v).getD k undef = _
  simp [Array.getD_eq_getD_getElem?, hd]
theorem zG (a : Act) (k : Nat) (v : Value) (hk : k < a.tmps.size) : (a.put (some k) v).tmps.getD k undef = v := by
 show (a.tmps.setIfInBounds k v).getD k undef = _
 simp [Array.getD_eq_getD_getElem?, hk]
theorem zFf (a : Act) (d : Option Tmp) (v : Value) : (a.put d v).tmps.size = a.tmps.size := by
 cases d with
 | none => rfl
 | some d => simp [Act.put]
theorem put_defers (a : Act) (d : Option Tmp) (v : Value) : (a.put d v).defers = a.defers := by
 cases d <;> rfl
theorem zEo {n : Nat} (h : zCi ops n = true) {i j k : Nat} (hi : (ops[i]?).bind (·.dst) = some k) (hj : (ops[j]?).bind (·.dst) = some k) : i = j := by
 have hlt : ∀ {x : Nat}, (ops[x]?).bind (·.dst) = some k → x < ops.size := fun {x} hx => by
  by_cases hl : x < ops.size
  ·exact hl
  ·have e : ops[x]? = none := by simp; omega
   simp [e] at hx
 have h1 := List.all_eq_true.1 h i (List.mem_range.2 (hlt hi))
 simp only [hi, Bool.and_eq_true] at h1
 have h2 := List.all_eq_true.1 h1.2 j (List.mem_range.2 (hlt hj))
 simp only [hj, bne_self_eq_false, Bool.or_false, beq_iff_eq] at h2
 exact h2.symm
theorem zE3 {n : Nat} (h : zCi ops n = true) {i k : Nat} (hi : (ops[i]?).bind (·.dst) = some k) : k < n := by
 have hlt : i < ops.size := by
  by_cases hl : i < ops.size
  ·exact hl
  ·have e : ops[i]? = none := by simp; omega
   simp [e] at hi
 have h1 := List.all_eq_true.1 h i (List.mem_range.2 hlt)
 simp only [hi, Bool.and_eq_true, decide_eq_true_eq] at h1
 exact h1.1
theorem Inv.next (h : Inv ops G T a0 L a w) (hd : zCi ops a0.tmps.size = true) (mono : ∀ i j v w w', j ≠ i → T j v w → R i w w' → T j v w') (ho : ops[i]? = some o)
  (hr : ∀ d ∈ deps o, L d = true) (hT : T i v w') (hG : G w') (hR : R i w w') : Inv ops G T a0 (fun j => L j || j == i) (a.put o.dst v) w' where
 g := hG
 defers := (put_defers _ _ _).trans h.defers
 size := (zFf _ _ _).trans h.size
 slot := fun j k hk hl => by
  by_cases hj : j = i
  ·subst hj
   rw [ho] at hk
   have hk' : o.dst = some k := hk
   rw [hk', zG _ _ _ (by rw [h.size]; exact zE3 hd (i := j) (by rw [ho]; exact hk'))]
   exact hT
  ·have hl' : L j = true := by simpa [hj] using hl
   have hne : o.dst ≠ some k := fun e => hj (zEo hd hk (by rw [ho]; exact e))
   rw [jA _ _ _ _ hne]
   exact mono _ _ _ _ _ hj (h.slot j k hk hl') hR
 eff := fun j o' hj' hn hl => by
  by_cases hj : j = i
  ·subst hj
   exact ⟨v, hT⟩
  ·have hl' : L j = true := by simpa [hj] using hl
   obtain ⟨v', hv⟩ := h.eff j o' hj' hn hl'
   exact ⟨v', mono _ _ _ _ _ hj hv hR⟩
 rest := fun k hk => by
  have hne : o.dst ≠ some k := fun e => hk i (by simp) (by rw [ho]; exact e)
  rw [jA _ _ _ _ hne]
  exact h.rest k (fun j hj => hk j (by simp [hj]))
 closed := fun j o' d hj hl hd' => by
  by_cases e : j = i
  ·subst e
   rw [ho] at hj; cases hj
   simp [hr d hd']
  ·have hl' : L j = true := by simpa [e] using hl
   simp [h.closed j o' d hj hl' hd']

theorem zC7 {l : List Nat} {p q : Nat → Bool} (h : ∀ x, p x = true → q x = true) {x : Nat} (hx : x ∈ l) (hq : q x = true) (hp : p x = false) : l.countP p < l.countP q := by
 induction l with
 | nil => simp at hx
 | cons y l ih =>
  have hle : l.countP p ≤ l.countP q := List.countP_mono_left (fun x _ => h x)
  rcases List.mem_cons.1 hx with rfl | hx
  ·simp only [List.countP_cons, hq, hp, if_true]
   simp; omega
  ·have := ih hx
   simp only [List.countP_cons]
   have hy : (if p y = true then 1 else 0) ≤ (if q y = true then 1 else 0) := by
    split
    ·rename_i hy; rw [if_pos (h y hy)]; exact Nat.le_refl _
    ·split <;> omega
   omega
def left (n : Nat) (listed : Array Bool) : Nat := (List.range n).countP fun i => !listed.getD i true
theorem mem_ready {listed : Array Bool} : i ∈ Region.ready .any ops listed ↔ i < ops.size ∧ listed.getD i true = false ∧ ∃ o, ops[i]? = some o ∧ ∀ d ∈ deps o, listed.getD d false = true := by
 simp only [Region.ready, List.mem_filter, List.mem_range, Bool.and_eq_true, Bool.not_eq_true']
 constructor
 ·rintro ⟨h1, h2, h3⟩
  refine ⟨h1, h2, ?_⟩
  cases ho : ops[i]? with
  | none => simp [ho] at h3
  | some o =>
   refine ⟨o, rfl, fun d hd => ?_⟩
   simp only [ho, Option.map_some, Option.getD_some, Array.all_eq_true_iff_forall_mem, Bool.or_eq_true, Bool.not_eq_true'] at h3
   simp only [deps, List.mem_map, List.mem_filter] at hd
   obtain ⟨e, ⟨he, hb⟩, rfl⟩ := hd
   rcases h3 e (by simpa using he) with h | h
   ·rw [hb] at h; cases h
   ·exact h
 ·rintro ⟨h1, h2, o, ho, h3⟩
  refine ⟨h1, h2, ?_⟩
  simp only [ho, Option.map_some, Option.getD_some, Array.all_eq_true_iff_forall_mem, Bool.or_eq_true, Bool.not_eq_true']
  intro e he
  cases hb : Region.binds .any e
  ·exact .inl rfl
  ·exact .inr (h3 e.on (by simp only [deps, List.mem_map, List.mem_filter]; exact ⟨e, ⟨by simpa using he, hb⟩, rfl⟩))
theorem zCm (hac : acyc ops = true) {listed : Array Bool} (hr : Region.ready .any ops listed = []) (hs : listed.size = ops.size) : ∀ i, i < ops.size → listed.getD i true = true := by
 intro i
 induction i using Nat.strongRecOn with
 | ind i ih =>
  intro hi
  cases hl : listed.getD i true
  ·have ho : ops[i]? = some ops[i] := Array.getElem?_eq_getElem hi
   have hm : i ∈ Region.ready .any ops listed := mem_ready.2 ⟨hi, hl, _, ho, fun d hd => by
    have h1 := List.all_eq_true.1 hac i (List.mem_range.2 hi)
    simp only [ho] at h1
    have h2 := List.all_eq_true.1 h1 d hd
    have hdi : d < i := of_decide_eq_true h2
    have h3 := ih d hdi (by omega)
    have hds : d < listed.size := by omega
    simpa [Array.getD_eq_getD_getElem?, Array.getElem?_eq_getElem hds] using h3⟩
   rw [hr] at hm
   simp at hm
  ·rfl
theorem zUo (hac : acyc ops = true) (hds : zCi ops a0.tmps.size = true) (mono : ∀ i j v w w', j ≠ i → T j v w → R i w w' → T j v w')
  (step : ∀ (L : Nat → Bool) (i : Nat) (o : Oper) (a : Act) (w : World), ops[i]? = some o → Inv ops G T a0 L a w → L i = false → (∀ d ∈ deps o, L d = true) →
   wpOp P ops Q i (fun a' w' => ∃ v, a' = a.put o.dst v ∧ T i v w' ∧ G w' ∧ R i w w') a w)
  (done : ∀ a w, Inv ops G T a0 (fun _ => true) a w → Q .normal a w) :
  ∀ (fuel : Nat) (listed : Array Bool) (a : Act) (w : World), listed.size = ops.size → left ops.size listed ≤ fuel → Inv ops G T a0 (fun j => listed.getD j false) a w → wpAny P .any ops Q fuel listed a w := by
 have fin : ∀ (listed : Array Bool) (a : Act) (w : World), listed.size = ops.size → Region.ready .any ops listed = [] → Inv ops G T a0 (fun j => listed.getD j false) a w → Q .normal a w := fun listed a w hs hr hI => by
  refine done a w ?_
  have hall := zCm hac hr hs
  have hL : ∀ j, j < ops.size → listed.getD j false = true := fun j hj => by
   have := hall j hj
   have hjl : j < listed.size := by omega
   simpa [Array.getD_eq_getD_getElem?, Array.getElem?_eq_getElem hjl] using this
  have hlt : ∀ {j k : Nat}, (ops[j]?).bind (·.dst) = some k → j < ops.size := fun {j k} hx => by
   by_cases hl : j < ops.size
   ·exact hl
   ·have e : ops[j]? = none := by simp; omega
    simp [e] at hx
  exact ⟨hI.g, hI.defers, hI.size, fun j k hk _ => hI.slot j k hk (hL j (hlt hk)), fun j o hj hn _ => hI.eff j o hj hn (hL j (by
   by_cases hl : j < ops.size
   ·exact hl
   ·have e : ops[j]? = none := by simp; omega
    simp [e] at hj)), fun k hk => hI.rest k (fun j hj => hk j rfl), fun _ _ _ _ _ _ => rfl⟩
 intro fuel
 induction fuel with
 | zero =>
  intro listed a w hs hf hI
  have hr : Region.ready .any ops listed = [] := by
   refine List.eq_nil_iff_forall_not_mem.2 fun i hi => ?_
   obtain ⟨h1, h2, _⟩ := mem_ready.1 hi
   have h0 : left ops.size listed = 0 := by omega
   have := (List.countP_eq_zero.1 h0) i (List.mem_range.2 h1)
   simp [h2] at this
  exact ⟨hr, fin listed a w hs hr hI⟩
 | succ fuel ih =>
  intro listed a w hs hf hI
  refine ⟨fun hr => fin listed a w hs hr hI, fun i hi => ?_⟩
  obtain ⟨h1, h2, o, ho, h3⟩ := mem_ready.1 hi
  have hil : i < listed.size := by omega
  have hLi : listed.getD i false = false := by
   simpa [Array.getD_eq_getD_getElem?, Array.getElem?_eq_getElem hil] using h2
  refine wpOp_mono ?_ (step (fun j => listed.getD j false) i o a w ho hI hLi h3)
  rintro a' w' ⟨v, rfl, hT, hG, hR⟩
  refine ih _ _ _ (by simpa using hs) ?_ ?_
  ·have hlt : left ops.size (listed.setIfInBounds i true) < left ops.size listed := by
    refine zC7 (x := i) (fun x hx => ?_) (List.mem_range.2 h1) (by simp [h2]) ?_
    ·by_cases hxi : x = i
     ·subst hxi; simp [h2]
     ·simpa [Array.getD_eq_getD_getElem?, Array.getElem?_setIfInBounds, Ne.symm hxi] using hx
    ·simp [Array.getD_eq_getD_getElem?, hil]
   omega
  ·have hI' := hI.next hds mono ho h3 hT hG hR
   have e : (fun j => (listed.setIfInBounds i true).getD j false) = fun j => listed.getD j false || j == i := by
    funext j
    by_cases hj : j = i
    ·subst hj; simp [Array.getD_eq_getD_getElem?, hil]
    ·simp [Array.getD_eq_getD_getElem?, Ne.symm hj, hj]
   rw [e]
   exact hI'
theorem xZ {id : Nat} (hm : P.follows .mixedOrders = true) (hac : acyc ops = true) (G : World → Prop) (T : Nat → Value → World → Prop) (R : Nat → World → World → Prop) (hds : zCi ops a0.tmps.size = true)
  (mono : ∀ i j v w w', j ≠ i → T j v w → R i w w' → T j v w') (hG : G w.drew)
  (step : ∀ (L : Nat → Bool) (i : Nat) (o : Oper) (a : Act) (w : World), ops[i]? = some o → Inv ops G T a0 L a w → L i = false → (∀ d ∈ deps o, L d = true) →
   wpOp P ops Q i (fun a' w' => ∃ v, a' = a.put o.dst v ∧ T i v w' ∧ G w' ∧ R i w w') a w)
  (done : ∀ a w, Inv ops G T a0 (fun _ => true) a w → Q .normal a w) : (Code.region id ops true).wp P Q a0 w := by
 have no : ∀ j, (Array.replicate ops.size false).getD j false = true → False := fun j hl => by
  by_cases hj : j < ops.size
  ·simp [Array.getD_eq_getD_getElem?, hj] at hl
  ·simp [Array.getD_eq_getD_getElem?, hj] at hl
 exact wp_region_any hm (zUo hac hds mono step done ops.size _ a0 w.drew (by simp) (by
  refine Nat.le_trans List.countP_le_length ?_
  simp) ⟨hG, rfl, rfl, fun j k _ hl => (no j hl).elim, fun j o _ _ hl => (no j hl).elim, fun _ _ => rfl, fun j o d _ hl _ => (no j hl).elim⟩)
theorem vK {id : Nat} (hm : P.follows .mixedOrders = true) (hac : acyc ops = true) (G : World → Prop) (T : Nat → Value → World → Prop) (R : World → World → Prop) (hds : zCi ops a0.tmps.size = true)
  (mono : ∀ j v w w', T j v w → R w w' → T j v w') (hG : G w.drew)
  (step : ∀ (L : Nat → Bool) (i : Nat) (o : Oper) (a : Act) (w : World), ops[i]? = some o → Inv ops G T a0 L a w → L i = false → (∀ d ∈ deps o, L d = true) →
   wpOp P ops Q i (fun a' w' => ∃ v, a' = a.put o.dst v ∧ T i v w' ∧ G w' ∧ R w w') a w)
  (done : ∀ a w, Inv ops G T a0 (fun _ => true) a w → Q .normal a w) : (Code.region id ops true).wp P Q a0 w :=
 xZ hm hac G T (fun _ => R) hds (fun _ j v w w' _ h hr => mono j v w w' h hr) hG step done
theorem Inv.get (h : Inv ops G T a0 L a w) (hr : ∀ d ∈ deps o, L d = true) (j k : Nat) (hj : (ops[j]?).bind (·.dst) = some k) (hd : (deps o).contains j = true) : T j (a.tmps.getD k undef) w :=
 h.slot j k hj (hr j (by simpa using hd))
theorem Inv.old (h : Inv ops G T a0 L a w) (k : Nat) (hk : (ops.all fun o => o.dst != some k) = true) : a.tmps.getD k undef = a0.tmps.getD k undef :=
 h.rest k fun j _ e => by
  cases hj : ops[j]? with
  | none => simp [hj] at e
  | some o =>
   have h1 := (Array.all_eq_true_iff_forall_mem.1 hk) o (Array.mem_of_getElem? hj)
   simp [hj] at e
   simp [e] at h1
theorem zC {K : Act → World → Prop} (ho : ops[i]? = some o) (hg : o.guard = none) (h : o.wp P a w K Q) : wpOp P ops Q i K a w := by
 unfold wpOp
 rw [ho]
 have hw : Region.wanted o (yielded ops a.tmps) = true := by simp [Region.wanted, hg]
 simp only [hw, if_true]
 exact .inl h
theorem qR {x : Operand} {K : Act → World → Prop} (ho : o.op = .move x) (h : K (a.put o.dst (a.eval x)) w) : o.wp P a w K Q := by
 unfold Oper.wp execOp; rw [ho]; exact h
theorem qC {x : Operand} {K : Act → World → Prop} (ho : o.op = .assign x) (h : K (a.put o.dst (a.eval x)) w) : o.wp P a w K Q := by
 unfold Oper.wp execOp; rw [ho]; exact h
theorem qX {K : Act → World → Prop} (hr : (execOp a.eval o).run P w = .ok (.value v) w) (h : K (a.put o.dst v) w) : o.wp P a w K Q := by
 unfold Oper.wp; rw [hr]; exact h
theorem zS7 {K : Act → World → Prop} (ho : ops[i]? = some o) {j k : Nat} {want : Bool} (hg : o.guard = some (j, want)) (hj : (ops[j]?).bind (·.dst) = some k) (hk : k < a.tmps.size) (hv : a.tmps.getD k undef = .bool want) (h : o.wp P a w K Q) : wpOp P ops Q i K a w := by
 unfold wpOp
 rw [ho]
 have e : a.tmps[k]? = some (.bool want) := by
  rw [Array.getD_eq_getD_getElem?, Array.getElem?_eq_getElem hk] at hv
  rw [Array.getElem?_eq_getElem hk]
  exact congrArg some hv
 have hy : yielded ops a.tmps j = some want := by
  unfold yielded
  rw [hj]
  simp [e]
 have hw : Region.wanted o (yielded ops a.tmps) = true := by simp [Region.wanted, hg, hy]
 simp only [hw, if_true]
 exact .inl h
theorem xH {x y z : Operand} {K : Act → World → Prop} {c : Bool} (ho : o.op = .pick x y z) (hx : a.eval x = .bool c) (h : K (a.put o.dst (if c then a.eval y else a.eval z)) w) : o.wp P a w K Q := by
 unfold Oper.wp execOp
 rw [ho]
 simp only [hx]
 cases c <;> exact h
theorem qP {b : BinOp} {t t2 : TypeId} {x y : Operand} {K : Act → World → Prop} {vx vy : Value} (ho : o.op = .binOp b t x y t2) (hx : a.eval x = vx) (hy : a.eval y = vy)
  (hr : ∀ w, (do eqGuard b t x y vx vy; binOp b t vx vy : Sem Value).run P w = .ok v w) (h : K (a.put o.dst v) w) : o.wp P a w K Q := by
 refine qX ?_ h
 unfold execOp
 rw [ho]
 simp only [hx, hy]
 have e := hr w
 simp only [Sem.run_bind] at e ⊢
 rw [e]
 rfl
theorem zS {f : FuncId} {fn : Func} {args : List Operand} {tys : Array TypeId} {K : Act → World → Prop} (ho : o.op = .call { callee := .value (.func f), args := args.toArray, argTypes := tys })
  (hf : P.funcs[f]? = some fn) (hn : (fn.name == "runtime.NumGoroutine") = false) (hb : fn.body.isNone = false)
  (h : Calls P f (args.map a.eval).toArray w fun e w' => ∃ v, e = .returned v ∧ K (a.put o.dst v) w') : o.wp P a w K Q := by
 unfold Oper.wp execOp
 rw [ho]
 show o.upon P a K Q ((callFunc f (#[] ++ args.toArray.map a.eval ++ #[])).run P w)
 have e : (callFunc f (#[] ++ args.toArray.map a.eval ++ #[])).run P w = .ok (.enter f (args.map a.eval).toArray) w := by
  have hn' : ¬ fn.name = "runtime.NumGoroutine" := by simpa using hn
  have hb' : ¬ fn.body = none := fun e => by simp [e] at hb
  simp [callFunc, hf, hn', hb']
 rw [e, Oper.upon_enter]
 refine h.mono ?_
 rintro e w' ⟨v, rfl, hk⟩
 exact hk
theorem zF7 {t e : TypeId} {n : Nat} {parts : List (Nat × Operand)} {vals : List (Nat × Value)} {cs : Array Value} {K : Act → World → Prop} {zz : Nat} (ho : o.op = .buildSlice t n parts.toArray) (hu : P.underlying t = some (.slice e))
  (hi : (P.info? e).map (fun i => (i.zero, i.size, i.bytes)) = some (some (.int .i64 0), 1, zz)) (hv : parts.map (fun (i, x) => (i, a.eval x)) = vals) (hn : n ≤ 16777216) (h0 : 0 < n)
  (hf : Instr.fill (fun i => some (i * 1, 1)) ((Array.range (n * 1)).map ((Value.int .i64 0).cells[· % (Value.int .i64 0).cells.size]!)) vals = some cs)
  (h : K (a.put o.dst (.slice (some ⟨w.heap.size, 0, none⟩) n n)) (w.alloc (.cells cs e))) : o.wp P a w K Q := by
 cases hq : P.info? e with
 | none => simp [hq] at hi
 | some ie =>
  simp [hq] at hi
  obtain ⟨hz, h1, _⟩ := hi
  refine wp_buildSlice t e n parts.toArray ho cs ie (.int .i64 0) hu hq hz (by rw [h1]; simp; omega) (by rw [h1]; simp; omega) ?_ h
  rw [h1, ← hf, ← hv]
  simp
theorem zAr {t : TypeId} {parts : List (Nat × Operand)} {vals : List (Nat × Value)} {cs : Array Value} {K : Act → World → Prop} (ho : o.op = .build t parts.toArray) (hv : parts.map (fun (i, x) => (i, a.eval x)) = vals)
  (hb : P.built t vals = some cs) (h : K (a.put o.dst (.agg cs)) w) : o.wp P a w K Q := by
 have e : (parts.toArray.map fun (i, x) => (i, a.eval x)).toList = vals := by rw [← hv]; simp
 refine wp_build t parts.toArray ho (by rw [e, hb]; rfl) ?_
 rw [e, hb]
 exact h
theorem zCf {t e : TypeId} {x y : Operand} {K : Act → World → Prop} {b n c r : Nat} {k : IntKind} (ho : o.op = .indexAddr t x y) (hu : P.underlying t = some (.slice e)) (hs : (P.info? e).map (·.size) = some 1)
  (hx : a.eval x = .slice (some ⟨b, 0, none⟩) n c) (hy : a.eval y = .int k (r : Int)) (hr : r < n) (h : K (a.put o.dst (.pointer (some ⟨b, r, none⟩))) w) : o.wp P a w K Q := by
 unfold Oper.wp execOp
 have he : P.elem t = e := by simp [Program.elem, hu]
 have hu' : P.underlying t = some (.slice (P.elem t)) := by rw [he]; exact hu
 have hi : (0 : Int) ≤ (r : Int) ∧ (r : Int) < (n : Int) := by omega
 obtain ⟨ie, hie, h1⟩ : ∃ ie, P.info? e = some ie ∧ ie.size = 1 := by
  cases hq : P.info? e with
  | none => simp [hq] at hs
  | some ie => exact ⟨ie, rfl, by simpa [hq] using hs⟩
 have ha : (⟨b, 0, none⟩ : Addr).add r = ⟨b, r, none⟩ := by
  by_cases h0 : r = 0 <;> simp [Addr.add, h0]
 simp only [ho, hx, hy, Sem.run_bind, run_indexAt_slice w t _ _ _ _ _ hu', he, if_pos hi]
 simp only [sizeOf, typeInfo, hie, Sem.run_bind, run_program, Result.andThen_ok, Sem.run_pure, h1, Int.toNat_natCast, Nat.mul_one, ha]
 exact h
theorem zN {ty : TypeId} {x : Operand} {K : Act → World → Prop} {ad : Addr} {kd : IntKind} (ho : o.op = .load ty x) (hu : P.underlying ty = some (.int kd)) (hx : a.eval x = .pointer (some ad)) (hc : w.cell? ad = some v)
  (h : K (a.put o.dst v) w) : o.wp P a w K Q := by
 unfold Oper.wp execOp
 have e : (loadVar ty ad).run P w = .ok v w := by simp [loadVar, isAgg, run_underlying hu, run_load, hc]
 simp only [ho, hx, Instr.loadAt, Instr.sureAddr, Sem.run_bind, Sem.run_pure, Result.andThen_ok, e]
 exact h
end

def Rel (X : Nat → Prop) (w w' : World) : Prop := w.heap.size ≤ w'.heap.size ∧ ∀ k, ¬ X k → k < w.heap.size → w'.heap[k]? = w.heap[k]?
theorem Rel.refl (X : Nat → Prop) (w : World) : Rel X w w := ⟨Nat.le_refl _, fun _ _ _ => rfl⟩
theorem Rel.onto {X : Nat → Prop} {p : Nat} {w w' : World} (h : Onto p w w') (hp : X p) : Rel X w w' := ⟨h.size, fun k hk hl => h.block k (fun e => hk (e ▸ hp)) hl⟩
theorem Rel.below {X : Nat → Prop} {w w' : World} (h : Below w.heap.size w w') : Rel X w w' := ⟨h.size, fun k _ hl => h.block k hl⟩
theorem Rel.alloc (X : Nat → Prop) (w : World) (o : Obj) : Rel X w (w.alloc o) := Rel.below ((Below.refl _ _).alloc (Nat.le_refl _) _)

/-! Kinds of what a slot holds. -/
def KIs (x : Value) (v : Value) (w : World) : Prop := v = x
def KInt (v : Value) (w : World) : Prop := ∃ z : Int, v = .int .i64 z
def KIdx (n : Int) (v : Value) (w : World) : Prop := ∃ r : Nat, v = .int .i64 (r : Int) ∧ (r : Int) < n
def zFt (X : Nat → Prop) (b n : Nat) (w : World) : Prop := ¬ X b ∧ b < w.heap.size ∧ ∀ o, o < n → ∃ z : Int, w.cell? ⟨b, o, none⟩ = some (.int .i64 z)
def KLit (X : Nat → Prop) (n : Nat) (v : Value) (w : World) : Prop := ∃ b, v = .slice (some ⟨b, 0, none⟩) n n ∧ zFt X b n w
def KAt (X : Nat → Prop) (n : Nat) (v : Value) (w : World) : Prop := ∃ b r, v = .pointer (some ⟨b, r, none⟩) ∧ r < n ∧ zFt X b n w
def KAny (v : Value) (w : World) : Prop := True
theorem zFt.rel {X : Nat → Prop} {b n : Nat} {w w' : World} (h : zFt X b n w) (hr : Rel X w w') : zFt X b n w' :=
 ⟨h.1, Nat.lt_of_lt_of_le h.2.1 hr.1, fun o ho => by
  obtain ⟨z, hz⟩ := h.2.2 o ho
  exact ⟨z, by rw [World.cell?_of_block (w := w) (a := ⟨b, o, none⟩) (hr.2 b h.1 h.2.1)]; exact hz⟩⟩
theorem zFt.new {X : Nat → Prop} {w : World} (hX : ¬ X w.heap.size) (cs : Array Value) (T : TypeId) (hc : ∀ v ∈ cs.toList, ∃ z : Int, v = .int .i64 z) : zFt X w.heap.size cs.size (w.alloc (.cells cs T)) :=
 ⟨hX, by simp, fun o ho => by
  obtain ⟨z, hz⟩ := hc cs[o] (by simp)
  exact ⟨z, by rw [World.cell?_alloc_new, Array.getElem?_eq_getElem ho, hz]⟩⟩
def Bears (X : Nat → Prop) (K : Value → World → Prop) : Prop := ∀ v w w', K v w → Rel X w w' → K v w'
theorem zO (X : Nat → Prop) (x : Value) : Bears X (KIs x) := fun _ _ _ h _ => h
theorem zM (X : Nat → Prop) : Bears X KInt := fun _ _ _ h _ => h
theorem zCa (X : Nat → Prop) (n : Int) : Bears X (KIdx n) := fun _ _ _ h _ => h
theorem zP2 (X : Nat → Prop) (n : Nat) : Bears X (KLit X n) := fun _ _ _ ⟨b, e, h⟩ hr => ⟨b, e, h.rel hr⟩
theorem zS6 (X : Nat → Prop) (n : Nat) : Bears X (KAt X n) := fun _ _ _ ⟨b, r, e, hn, h⟩ hr => ⟨b, r, e, hn, h.rel hr⟩
theorem bears_any (X : Nat → Prop) : Bears X KAny := fun _ _ _ _ _ => trivial
def kinds (l : List (Value → World → Prop)) (j : Nat) (v : Value) (w : World) : Prop := (l.getD j KAny) v w
theorem jS {X : Nat → Prop} {l : List (Value → World → Prop)} (h : ∀ K ∈ l, Bears X K) : ∀ j v w w', kinds l j v w → Rel X w w' → kinds l j v w' := fun j v w w' hk hr => by
 unfold kinds at *
 rw [List.getD_eq_getElem?_getD] at *
 cases e : l[j]? with
 | none => trivial
 | some K =>
  rw [e] at hk
  exact h K (List.mem_of_getElem? e) v w w' hk hr
def KRow (b : Nat) (cs : Array Value) (T : TypeId) (v : Value) (w : World) : Prop := w.heap[b]? = some (.cells cs T (0, 0))
theorem xX (X : Nat → Prop) (b : Nat) (cs : Array Value) (T : TypeId) (hb : ¬ X b) : Bears X (KRow b cs T) := fun _ w _ h hr => by
 have hl : b < w.heap.size := by
  by_cases hl : b < w.heap.size
  ·exact hl
  ·have e : w.heap[b]? = none := by simp; omega
   simp [KRow, e] at h
 exact (hr.2 b hb hl).trans h
def steps (s : Nat) (X Y : Nat → Prop) (i : Nat) : World → World → Prop := if i = s then Rel X else Rel Y
theorem zK {s i : Nat} {X Y : Nat → Prop} {w w' : World} (h : i ≠ s) (hr : Rel Y w w') : steps s X Y i w w' := by unfold steps; rw [if_neg h]; exact hr
theorem zAu {s : Nat} {X Y : Nat → Prop} {w w' : World} (hr : Rel X w w') : steps s X Y s w w' := by unfold steps; rw [if_pos rfl]; exact hr
theorem vZ {s : Nat} {X Y : Nat → Prop} {l : List (Value → World → Prop)} (hY : ∀ K ∈ l, Bears Y K) (hX : ∀ j K, l[j]? = some K → j ≠ s → Bears X K) :
  ∀ i j v w w', j ≠ i → kinds l j v w → steps s X Y i w w' → kinds l j v w' := fun i j v w w' hji hk hr => by
 unfold kinds at *
 rw [List.getD_eq_getElem?_getD] at *
 cases e : l[j]? with
 | none => trivial
 | some K =>
  rw [e] at hk
  by_cases hi : i = s
  ·subst hi
   unfold steps at hr
   rw [if_pos rfl] at hr
   exact hX j K e hji v w w' hk hr
  ·unfold steps at hr
   rw [if_neg hi] at hr
   exact hY K (List.mem_of_getElem? e) v w w' hk hr
theorem jC (a : Act) (n : Nat) (h : a.tmps.size = n) : a = ⟨((List.range n).map fun k => a.tmps.getD k undef).toArray, a.defers⟩ := by
 obtain ⟨t, d⟩ := a
 congr 1
 apply Array.ext_getElem?
 intro k
 have h' : t.size = n := h
 by_cases hk : k < n
 ·simp [hk, Array.getD_eq_getD_getElem?, Array.getElem?_eq_getElem (by omega : k < t.size)]
 ·have e1 : t[k]? = none := by simp; omega
  simp [hk, e1]
theorem zH {P : Program} {Q : Exit → Act → World → Prop} {a : Act} {w : World} {o : Oper} {v vx : Value} {x : Operand} {K : Act → World → Prop} (hx : a.eval x = vx) (hs : execOp a.eval o = execOp (fun _ => a.eval x) o) (hr : (execOp (fun _ => vx) o).run P w = .ok (.value v) w) (h : K (a.put o.dst v) w) : o.wp P a w K Q := by
 refine qX ?_ h
 rw [hs, hx]
 exact hr
theorem sk {P : Program} {ops : Array Oper} {Q : Exit → Act → World → Prop} {a : Act} {w : World} {i : Nat} {o : Oper} {K : Act → World → Prop} (ho : ops[i]? = some o) {j k : Nat} {want : Bool} (hg : o.guard = some (j, want)) (hj : (ops[j]?).bind (·.dst) = some k) (hv : a.eval (.tmp k) = .bool (!want)) (h : K (a.put o.dst undef) w) : wpOp P ops Q i K a w := by
 have hv' : a.tmps.getD k undef = .bool (!want) := hv
 unfold wpOp
 rw [ho]
 have hy : yielded ops a.tmps j ≠ some want := by
  unfold yielded
  rw [hj]
  rw [Array.getD_eq_getD_getElem?] at hv'
  cases hq : a.tmps[k]? with
  | none => simp [hq]
  | some v =>
   rw [hq] at hv'
   simp only [Option.getD_some] at hv'
   subst hv'
   cases want <;> simp [hq]
 have hw : Region.wanted o (yielded ops a.tmps) = false := by
  simp only [Region.wanted, hg]
  simpa using hy
 simp only [hw, Bool.false_eq_true, if_false]
 exact h
theorem qB {ops : Array Oper} {i : Nat} {o : Oper} (h : ops[i]? = some o) : i < ops.size := (Array.getElem?_eq_some_iff.1 h).1
theorem am {P : Program} {ops : Array Oper} {Q : Exit → Act → World → Prop} {a : Act} {w : World} {i : Nat} {o : Oper} {x : Operand} {K : Act → World → Prop} (ho : ops[i]? = some o) (hg : o.guard = none) (hm : o.op = .move x) (h : K (a.put o.dst (a.eval x)) w) : wpOp P ops Q i K a w := zC ho hg (qR hm h)
def gof (ops : Array Oper) (o : Oper) : Option (Nat × Bool) := match o.guard with
 | some (j, b) => match ops[j]? with
  | some q => match q.dst with
   | some k => some (k, b)
   | none => none
  | none => none
 | none => none
theorem zJ3 {ops : Array Oper} {o : Oper} {k : Nat} {want : Bool} (h : gof ops o = some (k, want)) : ∃ j, o.guard = some (j, want) ∧ (ops[j]?).bind (·.dst) = some k := by
 unfold gof at h
 cases hg : o.guard with
 | none => rw [hg] at h; cases h
 | some p =>
  obtain ⟨j, b⟩ := p
  rw [hg] at h
  simp only at h
  cases hj : ops[j]? with
  | none => rw [hj] at h; cases h
  | some q =>
   rw [hj] at h
   simp only at h
   cases hd : q.dst with
   | none => rw [hd] at h; cases h
   | some x =>
    rw [hd] at h
    cases h
    exact ⟨j, rfl, by rw [hj]; exact hd⟩
theorem ag {P : Program} {ops : Array Oper} {Q : Exit → Act → World → Prop} {a : Act} {w : World} {i k : Nat} {want : Bool} {o : Oper} {K : Act → World → Prop} (ho : ops[i]? = some o) (hg : gof ops o = some (k, want)) (hv : a.tmps.getD k undef = .bool want) (h : o.wp P a w K Q) : wpOp P ops Q i K a w := by
 obtain ⟨j, g1, g2⟩ := zJ3 hg
 refine zS7 ho g1 g2 ?_ hv h
 by_cases hk : k < a.tmps.size
 ·exact hk
 ·rw [Array.getD_eq_getD_getElem?, Array.getElem?_eq_none (by omega)] at hv
  cases want <;> simp [undef] at hv
theorem ak {P : Program} {ops : Array Oper} {Q : Exit → Act → World → Prop} {a : Act} {w : World} {i k : Nat} {want : Bool} {o : Oper} {K : Act → World → Prop} (ho : ops[i]? = some o) (hg : gof ops o = some (k, want)) (hv : a.eval (.tmp k) = .bool (!want)) (h : K (a.put o.dst undef) w) : wpOp P ops Q i K a w := by
 obtain ⟨j, g1, g2⟩ := zJ3 hg
 exact sk ho g1 g2 hv h
theorem kk {a : Act} {d : Option Tmp} {v : Value} {G : Prop} (hg : G) : ∃ v', a.put d v = a.put d v' ∧ v' = v ∧ G := ⟨_, rfl, rfl, hg⟩
theorem kv {a : Act} {d : Option Tmp} {v u : Value} {G : Prop} (e : v = u) (hg : G) : ∃ v', a.put d v = a.put d v' ∧ v' = u ∧ G := ⟨_, rfl, e, hg⟩
theorem bl {n : Nat} {w : World} : Below n w w := Below.refl _ _
abbrev pt (b k : Nat) : Value := .pointer (some ⟨b, k, none⟩)
def pick (ops : Array Oper) (o : Oper) (vals : List Value) (j : Nat) : Option (Nat × Value) := bif (deps o).contains j then (match ops[j]? with
 | some q => match q.dst with
  | some k => match vals[j]? with
   | some v => some (k, v)
   | none => none
  | none => none
 | none => none) else none
theorem zEz {ops : Array Oper} {o : Oper} {vals : List Value} {j k : Nat} {v : Value} (h : pick ops o vals j = some (k, v)) : (deps o).contains j = true ∧ vals.getD j undef = v ∧ ∃ oj, ops[j]? = some oj ∧ oj.dst = some k := by
 unfold pick at h
 cases hc : (deps o).contains j with
 | false => rw [hc] at h; cases h
 | true =>
  rw [hc] at h
  simp only [cond_true] at h
  cases hj : ops[j]? with
  | none => rw [hj] at h; cases h
  | some q =>
   rw [hj] at h
   simp only at h
   cases hd : q.dst with
   | none => rw [hd] at h; cases h
   | some x =>
    rw [hd] at h
    simp only at h
    cases hv : vals[j]? with
    | none => rw [hv] at h; cases h
    | some u =>
     rw [hv] at h
     cases h
     exact ⟨rfl, by rw [List.getD_eq_getElem?_getD, hv]; rfl, q, rfl, hd⟩
def zOb (ops : Array Oper) (o : Oper) (vals : List Value) (s t j : Nat) : Option (Nat × Value) := bif j == s || j == t then none else pick ops o vals j
theorem zGn {ops : Array Oper} {o : Oper} {vals : List Value} {s t j k : Nat} {v : Value} (h : zOb ops o vals s t j = some (k, v)) : j ≠ s ∧ j ≠ t ∧ pick ops o vals j = some (k, v) := by
 unfold zOb at h
 cases hc : (j == s || j == t) with
 | true => rw [hc] at h; cases h
 | false =>
  rw [hc] at h
  simp at hc
  exact ⟨hc.1, hc.2, h⟩
def free (ops : Array Oper) (t : Array Value) (k : Nat) : Option Value := bif ops.toList.all fun o => o.dst != some k then t.toList[k]? else none
theorem zBl {ops : Array Oper} {t : Array Value} {k : Nat} {v : Value} (h : free ops t k = some v) : (ops.all fun o => o.dst != some k) = true ∧ t.getD k undef = v := by
 unfold free at h
 cases hc : (ops.toList.all fun o => o.dst != some k) with
 | false => rw [hc] at h; cases h
 | true =>
  rw [hc] at h
  refine ⟨by simpa using hc, ?_⟩
  have h' : t.toList[k]? = some v := h
  rw [Array.getElem?_toList] at h'
  rw [Array.getD_eq_getD_getElem?, h']; rfl
theorem Inv.ol {ops : Array Oper} {G : World → Prop} {T : Nat → Value → World → Prop} {a0 a : Act} {L : Nat → Bool} {w : World} (h : Inv ops G T a0 L a w) (k : Nat) {v : Value} (hv : free ops a0.tmps k = some v) : a.eval (.tmp k) = v := (h.old k (zBl hv).1).trans (zBl hv).2
end Go.Proofs.YtamldhflkfbdnaaGreatDoor.Reg
namespace Go.Proofs.YtamldhflkfbdnaaGreatDoor.Slf
open Go.RowKit Base Slc Rw Reg

structure Fl (α : Type) where
 T : TypeId
 S : TypeId
 n : Nat
 bytes : Nat
 F : α → List Value
 z : α
 V : α → Value
structure Fl.Ok {α : Type} (f : Fl α) : Prop where
 len : ∀ x, (f.F x).length = f.n
 pos : 0 < f.n
 one : ∀ x, (f.F x).all (·.oneCell') = true
 und : Tryz.prog.underlying f.S = some (.slice f.T)
 info : (Tryz.prog.info? f.T).map (fun i => (i.zero, i.size, i.bytes)) = some (some (f.V f.z), f.n, f.bytes)
 few : f.bytes ≤ 512
 small : f.n ≤ 64
 val : ∀ x, (f.V x).cells = (f.F x).toArray
 load : ∀ (x : α) (w : World) (b q : Nat), w.rangeAt b q (f.F x) → (loadVar f.T ⟨b, q, none⟩).run Tryz.prog w = .ok (f.V x) w
def Fl.flat {α : Type} (f : Fl α) (l : List α) : List Value := l.flatMap f.F
section
variable {α : Type} {f : Fl α}
theorem zBw (hf : f.Ok) (l : List α) : (f.flat l).length = l.length * f.n := by
 induction l with
 | nil => simp [Fl.flat]
 | cons x l ih =>
  have ih' : (l.flatMap f.F).length = l.length * f.n := ih
  simp only [Fl.flat, List.flatMap_cons, List.length_append, hf.len, ih', List.length_cons, Nat.add_mul, Nat.one_mul]
  omega
theorem flat_get (hf : f.Ok) {l : List α} {i : Nat} {x : α} (hi : l[i]? = some x) {j : Nat} (hj : j < f.n) : (f.flat l)[i * f.n + j]? = (f.F x)[j]? := by
 induction l generalizing i with
 | nil => simp at hi
 | cons y l ih =>
  cases i with
  | zero =>
   simp at hi
   subst hi
   simp only [Fl.flat, List.flatMap_cons, Nat.zero_mul, Nat.zero_add]
   rw [List.getElem?_append_left (by rw [hf.len]; exact hj)]
  | succ i =>
   simp at hi
   have h := ih hi
   simp only [Fl.flat, List.flatMap_cons] at h ⊢
   rw [List.getElem?_append_right (by rw [hf.len, Nat.add_mul, Nat.one_mul]; omega), hf.len, ← h]
   congr 1
   rw [Nat.add_mul, Nat.one_mul]
   omega
theorem zSg (hf : f.Ok) {l : List α} {i : Nat} {x : α} (hi : l[i]? = some x) {j : Nat} (hj : j < f.n) {u : Value} {x' : α} (hx : (f.F x).set j u = f.F x') : (f.flat l).set (i * f.n + j) u = f.flat (l.set i x') := by
 induction l generalizing i with
 | nil => simp at hi
 | cons y l ih =>
  cases i with
  | zero =>
   simp at hi
   subst hi
   simp only [Fl.flat, List.flatMap_cons, Nat.zero_mul, Nat.zero_add, List.set_cons_zero]
   rw [List.set_append_left _ _ (by rw [hf.len]; exact hj), hx]
  | succ i =>
   simp at hi
   have h := ih hi
   simp only [Fl.flat, List.flatMap_cons, List.set_cons_succ] at h ⊢
   rw [List.set_append_right _ _ (by rw [hf.len, Nat.add_mul, Nat.one_mul]; omega), hf.len, ← h]
   congr 2
   rw [Nat.add_mul, Nat.one_mul]
   omega
theorem zPn (hf : f.Ok) (l : List α) (k : Nat) : (f.flat l).take (k * f.n) = f.flat (l.take k) := by
 induction l generalizing k with
 | nil => simp [Fl.flat]
 | cons y l ih =>
  cases k with
  | zero => simp [Fl.flat]
  | succ k =>
   have h := ih k
   simp only [Fl.flat, List.flatMap_cons, List.take_succ_cons] at h ⊢
   rw [List.take_append, hf.len, ← h, List.take_of_length_le (by rw [hf.len, Nat.add_mul, Nat.one_mul]; omega)]
   congr 2
   rw [Nat.add_mul, Nat.one_mul]
   omega
theorem zIj (l m : List α) : f.flat (l ++ m) = f.flat l ++ f.flat m := by simp [Fl.flat]
theorem zMo (hf : f.Ok) (l : List α) : (f.flat l).all (·.oneCell') = true := by
 induction l with
 | nil => rfl
 | cons y l ih =>
  have ih' : (l.flatMap f.F).all (·.oneCell') = true := ih
  simp only [Fl.flat, List.flatMap_cons, List.all_append, ih', hf.one y, Bool.and_self]
end
def AtF {α : Type} (f : Fl α) (w : World) (a : Option Addr) (l : List α) : Prop :=
 l.length = 0 ∨ ∃ b off, a = some ⟨b, off, none⟩ ∧ b < w.heap.size ∧ ∀ k, k < l.length * f.n → w.cell? ⟨b, off + k, none⟩ = (f.flat l)[k]?
def SlF {α : Type} (f : Fl α) (w : World) (v : Value) (l : List α) : Prop :=
 ∃ a cap, v = .slice a l.length cap ∧ AtF f w a l ∧ l.length ≤ cap ∧ cap ≤ maxLen ∧ (a = none → l.length = 0 ∧ cap = 0)
def OwnF {α : Type} (f : Fl α) (base : Nat) (w : World) (v : Value) (l : List α) : Prop := w.ownsRow base f.T f.n v l.length (f.flat l)
section
variable {α : Type} {f : Fl α} {w w' : World} {v : Value} {l : List α} {a : Option Addr} {base p : Nat} {row : Option Nat}
theorem AtF.keep (h : AtF f w a l) (hs : w.heap.size ≤ w'.heap.size) (hk : 0 < l.length → ∀ x, a = some x → w'.heap[x.block]? = w.heap[x.block]?) : AtF f w' a l := by
 rcases h with h | ⟨b, off, rfl, hb, hc⟩
 ·exact .inl h
 ·by_cases h0 : 0 < l.length
  ·refine .inr ⟨b, off, rfl, Nat.lt_of_lt_of_le hb hs, fun k hk' => ?_⟩
   rw [World.cell?_of_block (w := w) (a := ⟨b, off + k, none⟩) (hk h0 ⟨b, off, none⟩ rfl)]; exact hc k hk'
  ·exact .inl (by omega)
theorem AtF.lt (h : AtF f w a l) (h0 : 0 < l.length) : ∀ x, a = some x → x.block < w.heap.size := by
 rcases h with h | ⟨b, off, rfl, hb, hc⟩
 ·omega
 ·intro x hx; cases hx; exact hb
theorem AtF.below (h : AtF f w a l) (hb : Below w.heap.size w w') : AtF f w' a l := h.keep hb.size fun h0 x hx => hb.block _ (h.lt h0 x hx)
theorem AtF.onto (h : AtF f w a l) (ho : Onto p w w') (hp : 0 < l.length → ∀ x, a = some x → x.block ≠ p) : AtF f w' a l := h.keep ho.size fun h0 x hx => ho.block _ (hp h0 x hx) (h.lt h0 x hx)
theorem SlF.below (h : SlF f w v l) (hb : Below w.heap.size w w') : SlF f w' v l := by
 obtain ⟨a, cap, rfl, h1, h2⟩ := h
 exact ⟨a, cap, rfl, h1.below hb, h2⟩
theorem SlF.lt (h : SlF f w v l) (h0 : 0 < l.length) : ∀ k, v.ownBlock = some k → k < w.heap.size := by
 obtain ⟨a, cap, rfl, h1, h2⟩ := h
 intro k hk
 cases a with
 | none => simp [Value.ownBlock] at hk
 | some x => have := h1.lt h0 x rfl; simp [Value.ownBlock] at hk; omega
theorem SlF.onto (h : SlF f w v l) (ho : Onto p w w') (hv : v.ownBlock ≠ some p) : SlF f w' v l := by
 obtain ⟨a, cap, rfl, h1, h2⟩ := h
 refine ⟨a, cap, rfl, h1.onto ho (fun _ x hx e => hv ?_), h2⟩
 subst hx
 simp [Value.ownBlock, e]
theorem SlF.grown (h : SlF f w v l) (hg : w.grownBy w' row) (hr : 0 < l.length → ∀ k, row = some k → v.ownBlock ≠ some k) : SlF f w' v l := by
 obtain ⟨a, cap, rfl, h1, h2⟩ := h
 refine ⟨a, cap, rfl, h1.keep hg.size (fun h0 x hx => hg.block _ (h1.lt h0 x hx) (fun e => hr h0 _ e.symm ?_)), h2⟩
 subst hx
 rfl
theorem SlF.drewN (h : SlF f w v l) (n : Nat) : SlF f (w.drewN n) v l := h
theorem SlF.one (h : SlF f w v l) : v.oneCell' = true := by
 obtain ⟨a, cap, rfl, _⟩ := h; rfl
theorem OwnF.nil (f : Fl α) (base : Nat) (w : World) : OwnF f base w (.slice none 0 0) [] := World.ownsRow_nil _ _ _ _
theorem OwnF.mono {base' : Nat} (h : OwnF f base w v l) (hb : base' ≤ base) : OwnF f base' w v l := by
 refine ⟨h.1, ?_⟩
 rcases h.2 with h0 | ⟨g, cap, cur, rfl, hb', rest⟩
 ·exact .inl h0
 ·exact .inr ⟨g, cap, cur, rfl, Nat.le_trans hb hb', rest⟩
theorem OwnF.kept (h : OwnF f base w v l) (hk : ∀ k, v.ownBlock = some k → w'.heap[k]? = w.heap[k]?) : OwnF f base w' v l := by
 refine ⟨h.1, ?_⟩
 rcases h.2 with h0 | ⟨g, cap, cur, rfl, hb, hg, rest⟩
 ·exact .inl h0
 ·exact .inr ⟨g, cap, cur, rfl, hb, by rw [hk g rfl]; exact hg, rest⟩
theorem OwnF.lt (h : OwnF f base w v l) : ∀ k, v.ownBlock = some k → base ≤ k ∧ k < w.heap.size := World.ownsRow.lt h
theorem OwnF.below (h : OwnF f base w v l) (hb : Below w.heap.size w w') : OwnF f base w' v l := h.kept fun k hk => hb.block k (h.lt k hk).2
theorem OwnF.onto (h : OwnF f base w v l) (ho : Onto p w w') (hp : v.ownBlock ≠ some p) : OwnF f base w' v l :=
 h.kept fun k hk => ho.block k (fun e => hp (by rw [hk, e])) (h.lt k hk).2
theorem OwnF.grown (h : OwnF f base w v l) (hg : w.grownBy w' row) (hr : ∀ k, row = some k → v.ownBlock ≠ some k) : OwnF f base w' v l :=
 h.kept fun k hk => hg.block k (h.lt k hk).2 (fun e => hr k e.symm hk)
theorem OwnF.drewN (h : OwnF f base w v l) (n : Nat) : OwnF f base (w.drewN n) v l := h
theorem OwnF.sl (hf : f.Ok) (h : OwnF f base w v l) : SlF f w v l := by
 have hlt := h.lt
 rcases h.2 with ⟨rfl, h0⟩ | ⟨g, cap, cur, rfl, hb, hg, hn, hm, hcs, ht⟩
 ·exact ⟨none, 0, by rw [h0], .inl h0, by omega, by decide, fun _ => ⟨h0, rfl⟩⟩
 ·refine ⟨some ⟨g, 0, none⟩, cap, rfl, .inr ⟨g, 0, rfl, (hlt g rfl).2, fun k hk => ?_⟩, hn, hm, by simp⟩
  have hk' : k < (f.flat l).length := by rw [zBw hf]; exact hk
  have := World.ownsRow.cells h (g := g) rfl k ((f.flat l)[k]) (List.getElem?_eq_getElem hk')
  have e : (⟨g, 0, none⟩ : Addr).add k = ⟨g, 0 + k, none⟩ := by
   by_cases hi0 : k = 0 <;> simp [Addr.add, hi0]
  rw [← e, this, List.getElem?_eq_getElem hk']
theorem OwnF.one (hf : f.Ok) (h : OwnF f base w v l) : v.oneCell' = true := (h.sl hf).one
theorem OwnF.block (h : OwnF f base w v l) (h0 : 0 < l.length) : ∃ g cap, v = .slice (some ⟨g, 0, none⟩) l.length cap ∧ base ≤ g ∧ g < w.heap.size ∧ l.length ≤ cap ∧ cap ≤ maxLen := by
 have hlt := h.lt
 rcases h.2 with ⟨rfl, hn⟩ | ⟨g, cap, cur, rfl, hb, hg, hn, hm, hcs, ht⟩
 ·omega
 ·exact ⟨g, cap, rfl, hb, (hlt g rfl).2, hn, hm⟩
theorem OwnF.not_row {g : Nat} {cs : Array Value} {T : TypeId} (h : OwnF f base w v l) (hr : Row w g cs T) (hT : T ≠ f.T) : v.ownBlock ≠ some g := fun e => by
 rcases h.2 with ⟨rfl, _⟩ | ⟨g', cap, cur, rfl, _, hb, _⟩
 ·simp [Value.ownBlock] at e
 ·have e' : g' = g := Option.some.inj e
  rw [e', hr.row] at hb
  simp only [Option.some.injEq, Obj.cells.injEq] at hb
  exact hT hb.2.1
theorem OwnF.store (hf : f.Ok) {g n cap i j : Nat} {x x' : α} {u : Value} (h : OwnF f base w (.slice (some ⟨g, 0, none⟩) n cap) l) (hi : l[i]? = some x) (hj : j < f.n) (hx : (f.F x).set j u = f.F x') :
  OwnF f base (w.setCell ⟨g, i * f.n + j, none⟩ u) (.slice (some ⟨g, 0, none⟩) n cap) (l.set i x') ∧ w.grownBy (w.setCell ⟨g, i * f.n + j, none⟩ u) (some g) := by
 have hn : l.length = n := by
  rcases h.2 with ⟨e, _⟩ | ⟨g', cap', cur, e, _⟩
  ·cases e
  ·simp only [Value.slice.injEq] at e; exact e.2.1.symm
 subst hn
 have hs := World.ownsRow.stored h (i * f.n + j) u
 refine ⟨?_, hs.2⟩
 unfold OwnF
 rw [List.length_set, ← zSg hf hi hj hx]
 exact hs.1
theorem OwnF.cellAt (hf : f.Ok) {g n cap i j : Nat} {x : α} (h : OwnF f base w (.slice (some ⟨g, 0, none⟩) n cap) l) (hi : l[i]? = some x) (hj : j < f.n) : w.cell? ⟨g, i * f.n + j, none⟩ = (f.F x)[j]? := by
 obtain ⟨a, c, he, h1, _⟩ := h.sl hf
 simp only [Value.slice.injEq] at he
 obtain ⟨rfl, rfl, rfl⟩ := he
 have hil : i < l.length := (List.getElem?_eq_some_iff.1 hi).1
 rcases h1 with h0 | ⟨b, off, hb, _, hc⟩
 ·omega
 ·simp only [Option.some.injEq, Addr.mk.injEq] at hb
  obtain ⟨rfl, rfl, _⟩ := hb
  have hlt : i * f.n + j < l.length * f.n := by
   have : (i + 1) * f.n ≤ l.length * f.n := Nat.mul_le_mul_right _ hil
   rw [Nat.add_mul, Nat.one_mul] at this
   omega
  have := hc _ hlt
  rw [Nat.zero_add] at this
  rw [this, flat_get hf hi hj]
theorem OwnF.free {g n cap : Nat} (h : OwnF f base w (.slice (some ⟨g, 0, none⟩) n cap) l) (j : Nat) : w.frozen? ⟨g, j, none⟩ = false := by
 have hn : l.length = n := by
  rcases h.2 with ⟨e, _⟩ | ⟨g', cap', cur, e, _⟩
  ·cases e
  ·simp only [Value.slice.injEq] at e; exact e.2.1.symm
 subst hn
 exact World.ownsRow.frozenAt h j
theorem appF (hf : f.Ok) {ops : Array Oper} {rest : List Oper} {o : Oper} {a : Act} {Q : Exit → Act → World → Prop} (hgd : o.guard = none) (s x : Operand)
  (ho : o.op = .call { callee := .builtin .append, args := #[s, x], argTypes := #[f.S, f.S] })
  (base : Nat) (l news : List α) (hown : OwnF f base w (a.eval s) l) (hn : SlF f w (a.eval x) news) (hbd : l.length + news.length ≤ 100000000) (hbase : base ≤ w.heap.size)
  (h : ∀ v' w', OwnF f base w' v' (l ++ news) → w.grownBy w' (a.eval s).ownBlock → wpList Tryz.prog ops Q rest (a.put o.dst v') w') : wpList Tryz.prog ops Q (o :: rest) a w := by
 obtain ⟨i0, hi, hz0, hz1, hz2⟩ := info_parts hf.info
 obtain ⟨ao, cap, hx, hat, hlc, hcm, hnil⟩ := hn
 have hfew := hf.few
 cases ao with
 | none =>
  obtain ⟨h0, rfl⟩ := hnil rfl
  have : news = [] := List.eq_nil_of_length_eq_zero h0
  subst this
  refine wpList_append_own_none hgd s x f.S ho base f.T i0 f.n hf.und hi (a.eval s) l.length (f.flat l) rfl hown hx ?_
  have hh := h (a.eval s) w (by simpa using hown) (World.grownBy.refl w _)
  exact hh
 | some ad =>
  refine wpList_append_own w hgd s x f.S ho base f.T i0 (f.V f.z) f.n f.bytes hf.und hi hz0 hz1 hz2 ?_ ?_ (a.eval s) l.length (f.flat l) rfl hown ad news.length cap (f.flat news) hx (zBw hf _) ?_ ?_ ?_ ?_ hbase ?_
  ·rw [hf.val]; simp [hf.len]
  ·exact hf.pos
  ·intro j u hj
   have hjl : j < news.length * f.n := by
    have := (List.getElem?_eq_some_iff.1 hj).1
    rwa [zBw hf] at this
   rcases hat with h0 | ⟨b, off, hb, hbs, hc⟩
   ·rw [h0] at hjl; omega
   ·cases hb; have e : (⟨b, off, none⟩ : Addr).add j = ⟨b, off + j, none⟩ := by
     by_cases hi0 : j = 0 <;> simp [Addr.add, hi0]
    rw [e, hc j hjl, hj]
  ·intro u hu
   exact List.all_eq_true.1 (zMo hf news) u hu
  ·unfold maxLen; omega
  ·exact Nat.le_trans (Nat.mul_le_mul hbd hfew) (by decide)
  ·intro v' w' h2 h3 _
   refine h v' w' ?_ h3
   unfold OwnF
   rw [List.length_append, zIj]
   exact h2
theorem xO (f : Fl α) (hf : f.Ok) (base : Nat) (w : World) (cs : Array Value) (l : List α) (hc : cs.toList = f.flat l) (hm : l.length ≤ maxLen) (hb : base ≤ w.heap.size) :
  OwnF f base (w.alloc (.cells cs f.T)) (.slice (some ⟨w.heap.size, 0, none⟩) l.length l.length) l := by
 have hs : cs.size = l.length * f.n := by rw [← Array.length_toList, hc, zBw hf]
 exact ⟨zBw hf l, .inr ⟨w.heap.size, l.length, cs, rfl, hb, heap_alloc_new w _, Nat.le_refl _, hm, hs, by rw [← hc, List.take_of_length_le (by simp; omega)]⟩⟩
theorem SlF.take (hf : f.Ok) {b off n c : Nat} (h : SlF f w (.slice (some ⟨b, off, none⟩) n c) l) (k : Nat) (hk : k ≤ n) : SlF f w (.slice (some ⟨b, off, none⟩) k c) (l.take k) := by
 obtain ⟨a, c', he, h1, h2, h3, h4⟩ := h
 simp only [Value.slice.injEq] at he
 obtain ⟨rfl, rfl, rfl⟩ := he
 have hl : (l.take k).length = k := by simp; omega
 refine ⟨_, c, by rw [hl], ?_, by omega, h3, by simp⟩
 rcases h1 with h0 | ⟨b', off', hb, hbs, hc⟩
 ·exact .inl (by omega)
 ·refine .inr ⟨b', off', hb, hbs, fun j hj => ?_⟩
  rw [hl] at hj
  have h5 : k * f.n ≤ l.length * f.n := Nat.mul_le_mul_right _ hk
  rw [hc j (by omega), ← zPn hf, List.getElem?_take, if_pos hj]
theorem SlF.drop (hf : f.Ok) {b off n c : Nat} (h : SlF f w (.slice (some ⟨b, off, none⟩) n c) l) (k : Nat) (hk : k ≤ n) (hkc : k < c) : SlF f w (.slice (some ⟨b, off + k * f.n, none⟩) (n - k) (c - k)) (l.drop k) := by
 obtain ⟨a, c', he, h1, h2, h3, h4⟩ := h
 simp only [Value.slice.injEq] at he
 obtain ⟨rfl, rfl, rfl⟩ := he
 have hl : (l.drop k).length = l.length - k := by simp
 refine ⟨_, c - k, by rw [hl], ?_, by omega, by omega, by simp⟩
 rcases h1 with h0 | ⟨b', off', hb, hbs, hc⟩
 ·exact .inl (by omega)
 ·simp only [Option.some.injEq, Addr.mk.injEq] at hb
  obtain ⟨rfl, rfl, _⟩ := hb
  refine .inr ⟨b, off + k * f.n, rfl, hbs, fun j hj => ?_⟩
  rw [hl] at hj
  have h5 : k * f.n + (l.length - k) * f.n = l.length * f.n := by rw [← Nat.add_mul]; congr 1; omega
  have e : f.flat l = f.flat (l.take k) ++ f.flat (l.drop k) := by rw [← zIj, List.take_append_drop]
  have hlt : (f.flat (l.take k)).length = k * f.n := by rw [zBw hf]; congr 1; simp; omega
  rw [Nat.add_assoc, hc (k * f.n + j) (by omega), e, List.getElem?_append_right (by omega), hlt]
  congr 1
  omega
theorem SlF.cell (hf : f.Ok) {b off n c i j : Nat} {x : α} (h : SlF f w (.slice (some ⟨b, off, none⟩) n c) l) (hi : l[i]? = some x) (hj : j < f.n) : w.cell? ⟨b, off + (i * f.n + j), none⟩ = (f.F x)[j]? := by
 obtain ⟨a, c', he, h1, _⟩ := h
 simp only [Value.slice.injEq] at he
 obtain ⟨rfl, rfl, rfl⟩ := he
 have hil : i < l.length := (List.getElem?_eq_some_iff.1 hi).1
 rcases h1 with h0 | ⟨b', off', hb, _, hc⟩
 ·omega
 ·simp only [Option.some.injEq, Addr.mk.injEq] at hb
  obtain ⟨rfl, rfl, _⟩ := hb
  have hlt : i * f.n + j < l.length * f.n := by
   have : (i + 1) * f.n ≤ l.length * f.n := Nat.mul_le_mul_right _ hil
   rw [Nat.add_mul, Nat.one_mul] at this
   omega
  rw [hc _ hlt, flat_get hf hi hj]
theorem SlF.shape (h : SlF f w v l) (h0 : 0 < l.length) : ∃ b off c, v = .slice (some ⟨b, off, none⟩) l.length c ∧ b < w.heap.size ∧ l.length ≤ c ∧ c ≤ maxLen := by
 obtain ⟨a, c, rfl, h1, h2, h3, h4⟩ := h
 rcases h1 with h | ⟨b, off, rfl, hb, hc⟩
 ·omega
 ·exact ⟨b, off, c, rfl, hb, h2, h3⟩
theorem SlF.range (hf : f.Ok) {b off n c i : Nat} {x : α} (h : SlF f w (.slice (some ⟨b, off, none⟩) n c) l) (hi : l[i]? = some x) : w.rangeAt b (off + i * f.n) (f.F x) := fun j u hj => by
 have hjn : j < f.n := by have := (List.getElem?_eq_some_iff.1 hj).1; rwa [hf.len] at this
 rw [Nat.add_assoc, h.cell hf hi hjn, hj]
theorem zGj (hf : f.Ok) (w : World) : (sizeOf f.T).run Tryz.prog w = .ok f.n w := by
 obtain ⟨i0, hie, hz0, h1, hz2⟩ := info_parts hf.info
 simp only [sizeOf, typeInfo, hie, Sem.run_bind, run_program, Result.andThen_ok, Sem.run_pure, h1]
section
variable {ops : Array Oper} {rest : List Oper} {o : Oper} {A : Act} {K : Act → World → Prop} {Q : Exit → Act → World → Prop} {x y : Operand}
theorem elF (hf : f.Ok) {b q : Nat} {e : α} (hgd : o.guard = none) (ho : o.op = .load f.T x) (hx : A.eval x = .pointer (some ⟨b, q, none⟩)) (hr : w.rangeAt b q (f.F e)) (h : wpList Tryz.prog ops Q rest (A.put o.dst (f.V e)) w) : wpList Tryz.prog ops Q (o :: rest) A w := by
 refine wpList_plain hgd fun _ hK => ?_
 unfold Oper.wp execOp
 simp only [ho, hx, Instr.loadAt, Instr.sureAddr, Sem.run_bind, Sem.run_pure, Result.andThen_ok, hf.load e w b q hr]
 exact hK _ _ h
theorem jD (hf : f.Ok) {b q : Nat} {e : α} (ho : o.op = .load f.T x) (hx : A.eval x = .pointer (some ⟨b, q, none⟩)) (hr : w.rangeAt b q (f.F e)) (h : K (A.put o.dst (f.V e)) w) : o.wp Tryz.prog A w K Q := by
 unfold Oper.wp execOp
 simp only [ho, hx, Instr.loadAt, Instr.sureAddr, Sem.run_bind, Sem.run_pure, Result.andThen_ok, hf.load e w b q hr]
 exact h
theorem xQ (hf : f.Ok) {b off n c r : Nat} {k : IntKind} (ho : o.op = .indexAddr f.S x y) (hx : A.eval x = .slice (some ⟨b, off, none⟩) n c) (hy : A.eval y = .int k (r : Int)) (hr : r < n) (h : K (A.put o.dst (.pointer (some ⟨b, off + r * f.n, none⟩))) w) : o.wp Tryz.prog A w K Q := by
 unfold Oper.wp execOp
 have hu := hf.und
 have he : Tryz.prog.elem f.S = f.T := by simp [Program.elem, hu]
 have hu' : Tryz.prog.underlying f.S = some (.slice (Tryz.prog.elem f.S)) := by rw [he]; exact hu
 have hi : (0 : Int) ≤ (r : Int) ∧ (r : Int) < (n : Int) := by omega
 obtain ⟨i0, hie, hz0, h1, hz2⟩ := info_parts hf.info
 have ha : (⟨b, off, none⟩ : Addr).add (r * f.n) = ⟨b, off + r * f.n, none⟩ := Addr.add_mid _ _ _
 simp only [ho, hx, hy, Sem.run_bind, run_indexAt_slice w f.S _ _ _ _ _ hu', he, if_pos hi]
 simp only [sizeOf, typeInfo, hie, Sem.run_bind, run_program, Result.andThen_ok, Sem.run_pure, h1, Int.toNat_natCast, ha]
 exact h
theorem ixF (hf : f.Ok) {b off n c r : Nat} {k : IntKind} (hgd : o.guard = none) (ho : o.op = .indexAddr f.S x y) (hx : A.eval x = .slice (some ⟨b, off, none⟩) n c) (hy : A.eval y = .int k (r : Int)) (hr : r < n) (h : wpList Tryz.prog ops Q rest (A.put o.dst (.pointer (some ⟨b, off + r * f.n, none⟩))) w) : wpList Tryz.prog ops Q (o :: rest) A w :=
 wpList_plain hgd fun _ hK => xQ hf ho hx hy hr (hK _ _ h)
theorem zM6 (hf : f.Ok) {b off n c r : Nat} (ho : o.op = .slice f.S x none (some y) none) (hx : A.eval x = .slice (some ⟨b, off, none⟩) n c) (hz : A.eval y = .int .i64 (r : Int)) (hr : r ≤ c) (hc : 0 < c) (h : K (A.put o.dst (.slice (some ⟨b, off, none⟩) r c)) w) : o.wp Tryz.prog A w K Q := by
 refine qX (v := .slice (some ⟨b, off, none⟩) r c) ?_ h
 clear h
 generalize A.eval = ev at hx hz ⊢
 unfold execOp
 simp only [ho, hx]
 have hr' : ((r : Int) ≤ (c : Int)) := by omega
 have hu := hf.und
 simp [go_sem, hz, hr', hr, hu, zGj hf]
theorem zMl (hf : f.Ok) {b off n c r : Nat} (ho : o.op = .slice f.S x (some y) none none) (hx : A.eval x = .slice (some ⟨b, off, none⟩) n c) (hz : A.eval y = .int .i64 (r : Int)) (hr : r ≤ n) (hc : n ≤ c) (hrc : r < c) (h : K (A.put o.dst (.slice (some ⟨b, off + r * f.n, none⟩) (n - r) (c - r))) w) : o.wp Tryz.prog A w K Q := by
 refine qX (v := .slice (some ⟨b, off + r * f.n, none⟩) (n - r) (c - r)) ?_ h
 clear h
 generalize A.eval = ev at hx hz ⊢
 unfold execOp
 simp only [ho, hx]
 have hr' : ((r : Int) ≤ (n : Int)) := by omega
 have hne : ¬ c = r := by omega
 have hu := hf.und
 simp [go_sem, hz, hr', hr, hu, zGj hf, hne, Addr.add_mid]
theorem zOl (hf : f.Ok) {b off n : Nat} (ho : o.op = .slice f.S x (some y) none none) (hx : A.eval x = .slice (some ⟨b, off, none⟩) n n) (hz : A.eval y = .int .i64 (n : Int)) (h : K (A.put o.dst (.slice (some ⟨b, off, none⟩) 0 0)) w) : o.wp Tryz.prog A w K Q := by
 refine qX (v := .slice (some ⟨b, off, none⟩) 0 0) ?_ h
 clear h
 generalize A.eval = ev at hx hz ⊢
 unfold execOp
 simp only [ho, hx]
 have hu := hf.und
 simp [go_sem, hz, hu, zGj hf]
theorem zUw (hf : f.Ok) {b off n c r : Nat} (hgd : o.guard = none) (ho : o.op = .slice f.S x (some y) none none) (hx : A.eval x = .slice (some ⟨b, off, none⟩) n c) (hz : A.eval y = .int .i64 (r : Int)) (hr : r ≤ n) (hs : SlF f w (.slice (some ⟨b, off, none⟩) n c) l)
  (h : ∀ v', SlF f w v' (l.drop r) → wpList Tryz.prog ops Q rest (A.put o.dst v') w) : wpList Tryz.prog ops Q (o :: rest) A w := by
 have hnl : l.length = n ∧ n ≤ c := by
  obtain ⟨a, c', he, h1, h2, _⟩ := hs
  simp only [Value.slice.injEq] at he
  obtain ⟨_, rfl, rfl⟩ := he
  exact ⟨rfl, h2⟩
 refine wpList_plain hgd fun K hK => ?_
 by_cases hrc : r < c
 ·exact zMl hf ho hx hz hr hnl.2 hrc (hK _ _ (h _ (hs.drop hf r hr hrc)))
 ·obtain rfl : r = n := by omega
  obtain rfl : r = c := by omega
  refine zOl hf ho hx hz (hK _ _ (h _ ?_))
  have : l.drop r = [] := List.drop_of_length_le (by omega)
  rw [this]
  exact ⟨_, 0, rfl, .inl rfl, Nat.le_refl _, by decide, by simp⟩
theorem zQk (hf : f.Ok) {a : Option Addr} {c : Nat} (ha : a = none → c = 0) (ho : o.op = .slice f.S x none (some y) none) (hx : A.eval x = .slice a 0 c) (hz : A.eval y = .int .i64 0) (h : K (A.put o.dst (.slice a 0 c)) w) : o.wp Tryz.prog A w K Q := by
 refine qX (v := .slice a 0 c) ?_ h
 clear h
 generalize A.eval = ev at hx hz ⊢
 unfold execOp
 simp only [ho, hx]
 have hu := hf.und
 cases a with
 | none => obtain rfl := ha rfl; simp [go_sem, hz, hu, zGj hf]
 | some ad => simp [go_sem, hz, hu, zGj hf]
theorem zMm (hf : f.Ok) {a : Option Addr} {c : Nat} (ha : a = none → c = 0) (ho : o.op = .slice f.S x (some y) none none) (hx : A.eval x = .slice a 0 c) (hz : A.eval y = .int .i64 0) (h : K (A.put o.dst (.slice a 0 c)) w) : o.wp Tryz.prog A w K Q := by
 refine qX (v := .slice a 0 c) ?_ h
 clear h
 generalize A.eval = ev at hx hz ⊢
 unfold execOp
 simp only [ho, hx]
 have hu := hf.und
 cases a with
 | none => obtain rfl := ha rfl; simp [go_sem, hz, hu, zGj hf]
 | some ad => simp [go_sem, hz, hu, zGj hf]
theorem zK3 (hf : f.Ok) (base : Nat) (l news : List α) (ho : o.op = .call { callee := .builtin .append, args := #[x, y], argTypes := #[f.S, f.S] }) (hown : OwnF f base w (A.eval x) l) (hn : SlF f w (A.eval y) news) (h0 : 0 < news.length) (hbd : l.length + news.length ≤ 100000000) (hbase : base ≤ w.heap.size)
  (h : ∀ v' w', OwnF f base w' v' (l ++ news) → w.grownBy w' (A.eval x).ownBlock → K (A.put o.dst v') w') : o.wp Tryz.prog A w K Q := by
 obtain ⟨i0, hi, hz0, hz1, hz2⟩ := info_parts hf.info
 obtain ⟨ao, cap, hx, hat, hlc, hcm, hnil⟩ := hn
 have hfew := hf.few
 cases ao with
 | none => have := (hnil rfl).1; omega
 | some ad =>
  refine wp_append_own w x y f.S ho base f.T i0 (f.V f.z) f.n f.bytes hf.und hi hz0 hz1 hz2 ?_ hf.pos (A.eval x) l.length (f.flat l) rfl hown ad news.length cap (f.flat news) hx (zBw hf _) ?_ ?_ ?_ ?_ hbase ?_
  ·rw [hf.val]; simp [hf.len]
  ·intro j u hj
   have hjl : j < news.length * f.n := by
    have := (List.getElem?_eq_some_iff.1 hj).1
    rwa [zBw hf] at this
   rcases hat with h0 | ⟨b, off, hb, hbs, hc⟩
   ·rw [h0] at hjl; omega
   ·cases hb; rw [Addr.add_mid, hc j hjl, hj]
  ·intro u hu
   exact List.all_eq_true.1 (zMo hf news) u hu
  ·unfold maxLen; omega
  ·exact Nat.le_trans (Nat.mul_le_mul hbd hfew) (by decide)
  ·intro v' w' h2 h3 _
   refine h v' w' ?_ h3
   unfold OwnF
   rw [List.length_append, zIj]
   exact h2
theorem zFh (hf : f.Ok) {e : α} (ho : o.op = .buildSlice f.S 1 #[(0, x)]) (hx : A.eval x = f.V e) (hfill : Instr.fill (fun i => some (i * f.n, f.n)) ((Array.range (1 * f.n)).map ((f.V f.z).cells[· % (f.V f.z).cells.size]!)) [(0, f.V e)] = some (f.F e).toArray)
  (h : ∀ w', OwnF f w.heap.size w' (.slice (some ⟨w.heap.size, 0, none⟩) 1 1) [e] → Below w.heap.size w w' → K (A.put o.dst (.slice (some ⟨w.heap.size, 0, none⟩) 1 1)) w') : o.wp Tryz.prog A w K Q := by
 obtain ⟨i0, hi, hz0, hz1, hz2⟩ := info_parts hf.info
 have hn := hf.pos
 have hfw := hf.few
 refine wp_buildSlice f.S f.T 1 #[(0, x)] ho (f.F e).toArray i0 (f.V f.z) hf.und hi hz0 ?_ ?_ ?_ (h _ ?_ ((Below.refl _ _).alloc (Nat.le_refl _) _))
 ·rw [hz1, Nat.one_mul]; have := hf.small; omega
 ·rw [hz1]; omega
 ·rw [hz1, ← hfill, ← hx]; simp
 ·have := xO f hf w.heap.size w (f.F e).toArray [e] (by simp [Fl.flat]) (by unfold maxLen; simp) (Nat.le_refl _)
  exact this
end
end
end Go.Proofs.YtamldhflkfbdnaaGreatDoor.Slf
namespace Go.Proofs.YtamldhflkfbdnaaGreatDoor.Mem
open Go.ChangeShapes Go.WideShapes Go.RowKit Base Num Slc Slf Rw Tmr Reg

def fM : Fl M3 := ⟨40, 31, 3, 24, M3.cs, M3.nul, M3.val⟩
def fE : Fl M3 := ⟨82, 34, 3, 24, M3.cs, M3.nul, M3.val⟩
theorem okM : fM.Ok := ⟨fun _ => rfl, by decide, fun _ => rfl, by kernel_rfl, by kernel_rfl, by decide, by decide, fun _ => rfl, fun m w b q h => run_loadVar_mid w b q _ m.cs _ h Tryz.underlying40 rfl (by kernel_rfl)⟩
theorem okE : fE.Ok := ⟨fun _ => rfl, by decide, fun _ => rfl, by kernel_rfl, by kernel_rfl, by decide, by decide, fun _ => rfl, fun m w b q h => run_loadVar_mid w b q _ m.cs _ h Tryz.underlying82 rfl (by kernel_rfl)⟩
theorem jJ : (Tryz.prog.info? 40).map (·.size) = some 3 := by kernel_rfl
theorem qM {l : List M3} {i : Nat} (h : i < l.length) : l[i]? = some (M3.at' l i) := by
 unfold M3.at'
 rw [List.getD_eq_getElem?_getD, List.getElem?_eq_getElem h]
 rfl
abbrev jQ (w : World) (g : Nat) (m : M3) : Prop := Row w g #[.int .i64 m.t, .int .i64 m.k, .int .i64 m.v] 40
theorem zKm (m : M3) : m.val = .agg #[.int .i64 m.t, .int .i64 m.k, .int .i64 m.v] := rfl
section
variable {ops : Array Oper} {rest : List Oper} {o : Oper} {a : Act} {w : World} {Q : Exit → Act → World → Prop} {x y : Operand} {g k : Nat} {v : Value} {m : M3}
theorem xD (hgd : o.guard = none) (ho : o.op = .box 40 x) (hx : a.eval x = m.val)
  (h : ∀ w', jQ w' w.heap.size m → Below w.heap.size w w' → wpList Tryz.prog ops Q rest (a.put o.dst (.pointer (some ⟨w.heap.size, 0, none⟩))) w') : wpList Tryz.prog ops Q (o :: rest) a w :=
 wpList_plain hgd fun _ hK => by
  have e : (Instr.box 40 m.val).run Tryz.prog w = .ok (.pointer (some ⟨w.heap.size, 0, none⟩)) (w.alloc (.cells #[.int .i64 m.t, .int .i64 m.k, .int .i64 m.v] 40)) := rfl
  unfold Oper.wp execOp
  simp only [ho, hx, Sem.run_bind, Result.andThen_ok, e]
  exact hK _ _ (h _ (Row.new _ _ _) ((Below.refl _ _).alloc (Nat.le_refl _) _))
theorem zFk (hgd : o.guard = none) (ho : o.op = .load 40 x) (hx : a.eval x = .pointer (some ⟨g, 0, none⟩)) (hr : jQ w g m)
  (h : wpList Tryz.prog ops Q rest (a.put o.dst m.val) w) : wpList Tryz.prog ops Q (o :: rest) a w :=
 zF9 hgd _ x ho hx hr Tryz.underlying40 rfl jJ h
end
theorem zBp {P : Program} {ops : Array Oper} {Q : Exit → Act → World → Prop} {i : Nat} {o : Oper} {a : Act} {w : World} {K : Act → World → Prop} (ho : ops[i]? = some o) {j k : Nat} {want : Bool} (hg : o.guard = some (j, want)) (hj : (ops[j]?).bind (·.dst) = some k) (hv : a.tmps.getD k undef ≠ .bool want) (h : K (a.put o.dst undef) w) : wpOp P ops Q i K a w := by
 unfold wpOp
 rw [ho]
 have hy : yielded ops a.tmps j ≠ some want := by
  unfold yielded
  rw [hj]
  rw [Array.getD_eq_getD_getElem?] at hv
  cases hq : a.tmps[k]? with
  | none => simp [hq]
  | some v =>
   rw [hq] at hv
   simp only [Option.bind_some, hq]
   cases v <;> simp_all
 have hw : Region.wanted o (yielded ops a.tmps) = false := by
  simp only [Region.wanted, hg]
  simpa using hy
 simp only [hw, Bool.false_eq_true, if_false]
 exact h
theorem subN (i j : Int) (x y : Operand) (w : World) (h0 : -9223372036854775808 ≤ i - j) (h1 : i - j ≤ 9223372036854775807) : (do eqGuard .sub 3 x y (.int .i64 i) (.int .i64 j); binOp .sub 3 (.int .i64 i) (.int .i64 j) : Sem Value).run Tryz.prog w = .ok (.int .i64 (i - j)) w := by
 have e : IntKind.i64.wrap (i - j) = i - j := by
  simp [IntKind.wrap, IntKind.bits, IntKind.signed]
  omega
 have : (do eqGuard .sub 3 x y (.int .i64 i) (.int .i64 j); binOp .sub 3 (.int .i64 i) (.int .i64 j) : Sem Value).run Tryz.prog w = .ok (.int .i64 (IntKind.i64.wrap (i - j))) w := by simp [go_sem]
 rw [this, e]
theorem zAh (m : M3) (w : World) : Calls Tryz.prog 76 #[m.val] w fun e w' => e = .returned (.bool m.ok) ∧ Below w.heap.size w w' := by
 obtain ⟨vv, hvv⟩ : ∃ vv, vv = m.val := ⟨_, rfl⟩
 have HO : Hid (m.ok = (inn m.t 0 1000000100 && (if m.k = 1 ∨ m.k = 2 then inn m.v 0 1 else if m.k = 3 then bok m.v else false))) := show _ = _ from rfl
 rw [← hvv]
 cases h0 : inn m.t 0 1000000100
 ·go_enter Tryz.func76, Tryz.ntmps76
  go_wp2_with (first
   | (refine xD rfl rfl hvv ?_; intro w0 r0 hB0; have c0 : w0.cell? ⟨w.heap.size, 0, none⟩ = some (.int .i64 m.t) := r0.cell 0)
   | (go_at_call 147; refine (Tmr.in_any _ _ _ _).mono ?_; rintro e w2 ⟨rfl, rfl⟩; rw [h0]))
  go_ret
  exact ⟨zT (by rw [HO.out, h0]; rfl), hB0⟩
 ·by_cases k1 : m.k = 1
  ·go_enter Tryz.func76, Tryz.ntmps76
   go_wp2_with (first
    | (refine xD rfl rfl hvv ?_; intro w0 r0 hB0; have c0 : w0.cell? ⟨w.heap.size, 0, none⟩ = some (.int .i64 m.t) := r0.cell 0; have c1 : w0.cell? ⟨w.heap.size, 1, none⟩ = some (.int .i64 m.k) := r0.cell 1; rw [k1] at c1; have c2 : w0.cell? ⟨w.heap.size, 2, none⟩ = some (.int .i64 m.v) := r0.cell 2)
    | (go_at_call 147; refine (Tmr.in_any _ _ _ _).mono ?_; rintro e w2 ⟨rfl, rfl⟩; first | rw [h0] | skip))
   go_ret
   exact ⟨zT (by rw [HO.out, h0, if_pos (.inl k1)]; simp), hB0⟩
  by_cases k2 : m.k = 2
  ·go_enter Tryz.func76, Tryz.ntmps76
   go_wp2_with (first
    | (refine xD rfl rfl hvv ?_; intro w0 r0 hB0; have c0 : w0.cell? ⟨w.heap.size, 0, none⟩ = some (.int .i64 m.t) := r0.cell 0; have c1 : w0.cell? ⟨w.heap.size, 1, none⟩ = some (.int .i64 m.k) := r0.cell 1; rw [k2] at c1; have c2 : w0.cell? ⟨w.heap.size, 2, none⟩ = some (.int .i64 m.v) := r0.cell 2)
    | (go_at_call 147; refine (Tmr.in_any _ _ _ _).mono ?_; rintro e w2 ⟨rfl, rfl⟩; first | rw [h0] | skip))
   go_ret
   exact ⟨zT (by rw [HO.out, h0, if_pos (.inr k2)]; simp), hB0⟩
  by_cases k3 : m.k = 3
  ·go_enter Tryz.func76, Tryz.ntmps76
   go_wp2_with (first
    | (refine xD rfl rfl hvv ?_; intro w0 r0 hB0; have c0 : w0.cell? ⟨w.heap.size, 0, none⟩ = some (.int .i64 m.t) := r0.cell 0; have c1 : w0.cell? ⟨w.heap.size, 1, none⟩ = some (.int .i64 m.k) := r0.cell 1; rw [k3] at c1; have c2 : w0.cell? ⟨w.heap.size, 2, none⟩ = some (.int .i64 m.v) := r0.cell 2)
    | (go_at_call 147; refine (Tmr.in_any _ _ _ _).mono ?_; rintro e w2 ⟨rfl, rfl⟩; rw [h0])
    | (go_at_call 146; refine (xB _ _).mono ?_; rintro e w2 ⟨rfl, rfl⟩))
   go_ret
   exact ⟨zT (by rw [HO.out, h0, if_neg (by omega), if_pos k3]; simp), hB0⟩
  have b1 : (m.k == 1) = false := by simpa using k1
  have b2 : (m.k == 2) = false := by simpa using k2
  have b3 : (m.k == 3) = false := by simpa using k3
  go_enter Tryz.func76, Tryz.ntmps76
  go_wp2_with (first
   | (refine xD rfl rfl hvv ?_; intro w0 r0 hB0; have c0 : w0.cell? ⟨w.heap.size, 0, none⟩ = some (.int .i64 m.t) := r0.cell 0; have c1 : w0.cell? ⟨w.heap.size, 1, none⟩ = some (.int .i64 m.k) := r0.cell 1)
   | (go_at_call 147; refine (Tmr.in_any _ _ _ _).mono ?_; rintro e w2 ⟨rfl, rfl⟩; rw [h0]))
  go_ret
  exact ⟨zT (by rw [HO.out, h0, if_neg (by omega), if_neg k3]; simp), hB0⟩
theorem zB6 (a b : M3) (w : World) : Calls Tryz.prog 81 #[a.val, b.val] w fun e w' => e = .returned (.bool (later a b)) ∧ Below w.heap.size w w' := by
 have HO : Hid (later a b = (decide (b.t < a.t) || (a.t == b.t && decide (b.k < a.k)))) := show _ = _ from rfl
 have hB : Below w.heap.size w ((w.alloc (.cells #[.int .i64 a.t, .int .i64 a.k, .int .i64 a.v] 40)).alloc (.cells #[.int .i64 b.t, .int .i64 b.k, .int .i64 b.v] 40)) := ((Below.refl _ w).alloc (Nat.le_refl _) _).alloc (by simp) _
 have HB : Hid (Below w.heap.size w ((w.alloc (.cells #[.int .i64 a.t, .int .i64 a.k, .int .i64 a.v] 40)).alloc (.cells #[.int .i64 b.t, .int .i64 b.k, .int .i64 b.v] 40))) := hB
 clear hB
 rw [zKm, zKm]
 generalize later a b = r at HO ⊢
 obtain ⟨t1, k1, v1⟩ := a
 obtain ⟨t2, k2, v2⟩ := b
 by_cases h1 : t2 < t1
 ·have d1 : decide (t2 < t1) = true := by simpa using h1
  go_enter Tryz.func81, Tryz.ntmps81
  go_wp2
  go_ret
  exact ⟨zT (by rw [HO.out]; simp [d1]), HB.out⟩
 ·have d1 : decide (t2 < t1) = false := by simpa using h1
  by_cases h2 : t1 = t2
  ·subst h2
   by_cases h3 : k2 < k1
   ·go_enter Tryz.func81, Tryz.ntmps81
    go_wp2
    go_ret
    exact ⟨zT (by rw [HO.out]; simp [h3]), HB.out⟩
   ·go_enter Tryz.func81, Tryz.ntmps81
    go_wp2
    go_ret
    exact ⟨zT (by rw [HO.out]; simp [h3]), HB.out⟩
  ·have d2 : (t1 == t2) = false := by simpa using h2
   go_enter Tryz.func81, Tryz.ntmps81
   go_wp2
   go_ret
   exact ⟨zT (by rw [HO.out]; simp [d1, d2]), HB.out⟩
end Go.Proofs.YtamldhflkfbdnaaGreatDoor.Mem
