/-
  The law of the numbers: at every code, sums and differences go round, and what is turned left and then right is what it was.
-/
import Derived.Test.YtgghhigggopndaaNum
import Derived.Test.YtgghhigggopndaaDice
namespace Go.Proofs.Ytgghhigggopndaa.Nums
open Go.ChangeShapes Go.WideShapes Go.RowKit Base Draw Num
set_option linter.unusedVariables false

theorem add_ok (a b : Int) : bok (addB a b) = true := by
  unfold addB; split
  · exact bok_mk (by omega) (by omega)
  · exact bok_mk (by omega) (by omega)
theorem turnL_ok (a : Int) : bok (turnLB a) = true := by
  unfold turnLB; split
  · rename_i h
    have := bok_true h
    exact bok_mk (by omega) (by omega)
  · exact bok_mk (by omega) (by omega)
theorem sub_add (n o : Nat) (hn : (n : Int) < 256) (ho : (o : Int) < 256) : (subB (addB n o) o == (n : Int)) = true := by
  have h1 : bok (n : Int) = true := bok_mk (by omega) (by omega)
  have h2 : bok (o : Int) = true := bok_mk (by omega) (by omega)
  have h3 := add_ok n o
  have e : addB n o = ((n : Int) + o) % 256 := by simp [addB, h1, h2]
  have : subB (addB n o) o = (n : Int) := by
    simp only [subB, h3, h2, Bool.and_self, if_true]
    omega
  simp [this]
theorem right_left (n : Nat) (hn : (n : Int) < 256) : (turnRB (turnLB n) == (n : Int)) = true := by
  have h1 : bok (n : Int) = true := bok_mk (by omega) (by omega)
  have h3 := turnL_ok n
  have e : turnLB n = 2 * (n : Int) % 256 + (n : Int) / 128 := by simp [turnLB, h1]
  have : turnRB (turnLB n) = (n : Int) := by
    simp only [turnRB, h3, if_true]
    by_cases h : (n : Int) < 128
    · have e1 : turnLB n = 2 * (n : Int) := by omega
      omega
    · have e1 : turnLB n = 2 * (n : Int) - 255 := by omega
      omega
  simp [this]

theorem big_any (a : Option Addr) (len cap : Nat) (w : World) :
    Calls Try.prog 9 #[.slice a len cap] w fun e w' => e = .returned (.bool (decide ((4096 : Int) < (len : Int)))) ∧ w' = w := by
  go_enter Try.func9, Try.ntmps9
  go_wp2
  go_ret
  exact ⟨rfl, rfl⟩

set_option maxRecDepth 100000 in
theorem nums_any (a : Option Addr) (len cap : Nat) (w : World) (hc : CodeAt w a len) :
    Calls Try.prog 3 #[.slice a len cap] w fun e w' => e = .returned (.bool true) ∧ Below w.heap.size w w' := by
  by_cases hl : len ≤ 4096
  · have hs : decide ((4096 : Int) < (len : Int)) = false := by simp; omega
    have hB : Below w.heap.size w w := Below.refl _ _
    have q1 := add_ok
    have q2 := turnL_ok
    have q3 := sub_add
    have q4 := right_left
    go_enter Try.func3, Try.ntmps3
    go_wp2_with (first
      | (go_at_call 9; refine (big_any _ _ _ _).mono ?_; rintro e w1 ⟨rfl, rfl⟩; rw [hs])
      | (go_at_call 10; refine (drawAddByte_any a len cap _ hc hl).mono ?_; rintro e w1 ⟨x, y, rfl, _, _, hb⟩; have hc1 := hc.below hb; replace hB := hB.trans hb)
      | (go_at_call 11; refine (addByte_impl _ _ _).mono ?_; rintro e w1 ⟨rfl, rfl⟩)
      | (go_at_call 12; refine (addByte_spec _ _ _).mono ?_; rintro e w1 ⟨rfl, rfl⟩)
      | (go_at_call 13; refine (subByte_impl _ _ _).mono ?_; rintro e w1 ⟨rfl, rfl⟩)
      | (go_at_call 14; refine (subByte_spec _ _ _).mono ?_; rintro e w1 ⟨rfl, rfl⟩)
      | (go_at_call 15; refine (turnedLeft_impl _ _).mono ?_; rintro e w1 ⟨rfl, rfl⟩)
      | (go_at_call 16; refine (turnedLeft_spec _ _).mono ?_; rintro e w1 ⟨rfl, rfl⟩)
      | (go_at_call 17; refine (turnedRight_impl _ _).mono ?_; rintro e w1 ⟨rfl, rfl⟩)
      | (go_at_call 18; refine (turnedRight_spec _ _).mono ?_; rintro e w1 ⟨rfl, rfl⟩)
      | (go_at_call 19; refine (byteOk_impl _ _).mono ?_; rintro e w1 ⟨rfl, rfl⟩)
      | (go_at_call 20; refine (byteOk_spec _ _).mono ?_; rintro e w1 ⟨rfl, rfl⟩)
      | (go_at_call 21; refine (Dice.roll_any a len cap _ _ (by assumption) hl).mono ?_; rintro e w1 ⟨rfl, hb2, hd⟩; have hsz := hB.size; replace hB := hB.trans (hb2.mono hsz))
      | (go_at_call 22; refine (Dice.below_any _ a len cap _ _ (by assumption) (by omega)).mono ?_; rintro e w1 ⟨r, rfl, hr, ho, hd2⟩; have hc2 := hd2.code; replace hB := hB.trans (ho.below hsz hB.size)))
    go_ret
    exact ⟨rfl, hB⟩
  · have hs : decide ((4096 : Int) < (len : Int)) = true := by simp; omega
    go_enter Try.func3, Try.ntmps3
    go_wp2_with (go_at_call 9; refine (big_any _ _ _ _).mono ?_; rintro e w1 ⟨rfl, rfl⟩; rw [hs])
    go_ret
    exact ⟨rfl, Below.refl _ _⟩
end Go.Proofs.Ytgghhigggopndaa.Nums
