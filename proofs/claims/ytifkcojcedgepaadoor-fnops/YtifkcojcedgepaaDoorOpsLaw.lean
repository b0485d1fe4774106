/-
  Each code has one name, and each name one code.
-/
import Derived.Test.YtifkcojcedgepaaDoorOpDraw
namespace Go.Proofs.YtifkcojcedgepaaDoor.OpsLaw
open Go.ChangeShapes Go.WideShapes Go.RowKit Base Draw Slc Bend Opl OpDraw
set_option linter.unusedVariables false
theorem big_any (a : Option Addr) (len cap : Nat) (w : World) :
    Calls Tryd.prog 8 #[.slice a len cap] w fun e w' => e = .returned (.bool (decide ((4096 : Int) < (len : Int)))) ∧ w' = w := by
  go_enter Tryd.func8, Tryd.ntmps8
  go_wp2
  go_ret
  exact ⟨rfl, rfl⟩
theorem nm_list (k : Nat) : (⟨(line k).1.toArray⟩ : ByteArray).toList = nm k := by simp [nm, go_sem]
theorem ops_any (a : Option Addr) (len cap : Nat) (w : World) (hc : CodeAt w a len) (ho : OpsAt w) :
    Calls Tryd.prog 3 #[.slice a len cap] w fun e w' => e = .returned (.bool true) ∧ Below w.heap.size w w' := by
  by_cases hl : len ≤ 4096
  · have hs : decide ((4096 : Int) < (len : Int)) = false := by simp; omega
    go_enter Tryd.func3, Tryd.ntmps3
    go_wp2_with (go_at_call 8; refine (big_any _ _ _ _).mono ?_; rintro e w1 ⟨rfl, rfl⟩; rw [hs])
    go_loopw [3] (fun k wr => ∃ j : Nat, j ≤ 31 ∧ k = .int .i64 (j : Int) ∧ Below w1.heap.size w1 wr) (fun k _ => 31 - (intOf k).toNat)
    case atStart => exact ⟨0, by omega, rfl, Below.refl _ _⟩
    case round =>
      obtain ⟨j, hj, rfl, hB⟩ := hrel
      by_cases h31 : j < 31
      · have hlt : (j : Int) < 31 := by omega
        obtain ⟨l3, s1, s2, c1, c4⟩ := lines ⟨j, h31⟩
        simp only at l3 s1 s2 c1 c4
        have hsz : (⟨(line j).1.toArray⟩ : ByteArray).size = 3 := by
          show (line j).1.toArray.size = 3
          simpa using l3
        have hO := ho.below hB
        go_wp2_with fail
        go_at_call 9
        refine (nameOf_impl _ _ hO).mono ?_
        rintro e w2 ⟨rfl, hb2⟩
        have hB2 := hB.trans (hb2.mono hB.size)
        have hO2 := ho.below hB2
        clear hb2
        go_wp2_with (first
          | (go_at_call 10; refine (codeOf_impl _ _ (by assumption)).mono ?_; rintro e w3 ⟨r, rfl, hr, hb3⟩; obtain rfl : r = (j : Int) := codeIs_nm j h31 (by rw [← nm_list j]; exact hr); replace hB2 := hB2.trans (hb3.mono hB2.size); have hO3 := ho.below hB2; clear hb3)
          | (go_at_call 11; refine (sizeOf_impl _ _ (by assumption)).mono ?_; rintro e w4 ⟨rfl, hb4⟩; replace hB2 := hB2.trans (hb4.mono hB2.size); have hO4 := ho.below hB2; clear hb4)
          | (go_at_call 12; refine (costOf_impl _ _ (by assumption)).mono ?_; rintro e w5 ⟨rfl, hb5⟩; replace hB2 := hB2.trans (hb5.mono hB2.size); have hO5 := ho.below hB2; clear hb5))
        go_roundw
        case rel => exact ⟨j + 1, by omega, by simp, hB2⟩
        case measure => simp [intOf]; omega
      · obtain rfl : j = 31 := by omega
        have hc1 := hc.below hB
        have hO := ho.below hB
        go_wp2_with fail
        go_at_call 13
        refine (drawNameOf_any a len cap _ hc1 hl).mono ?_
        rintro e w2 ⟨x, rfl, hxr, hb2⟩
        replace hc1 := hc1.below hb2
        replace hB := hB.trans (hb2.mono hB.size)
        clear hb2
        go_wp2_with fail
        go_at_call 14
        refine (drawCodeOf_any a len cap _ hc1 hl).mono ?_
        rintro e w3 ⟨s, rfl, hs5, hb3⟩
        replace hB := hB.trans (hb3.mono hB.size)
        replace hO := ho.below hB
        clear hb3 hc1
        go_wp2_with (first
          | (go_at_call 9; refine (nameOf_impl _ _ (by assumption)).mono ?_; rintro e w4 ⟨rfl, hb4⟩; replace hB := hB.trans (hb4.mono hB.size); have hO4 := ho.below hB; clear hb4)
          | (go_at_call 15; refine (nameOf_spec _ _).mono ?_; rintro e w4 ⟨rfl, hb4⟩; replace hB := hB.trans (hb4.mono hB.size); have hO4 := ho.below hB; clear hb4)
          | (go_at_call 11; refine (sizeOf_impl _ _ (by assumption)).mono ?_; rintro e w4 ⟨rfl, hb4⟩; replace hB := hB.trans (hb4.mono hB.size); have hO4 := ho.below hB; clear hb4)
          | (go_at_call 16; refine (sizeOf_spec _ _).mono ?_; rintro e w4 ⟨rfl, hb4⟩; replace hB := hB.trans (hb4.mono hB.size); have hO4 := ho.below hB; clear hb4)
          | (go_at_call 12; refine (costOf_impl _ _ (by assumption)).mono ?_; rintro e w4 ⟨rfl, hb4⟩; replace hB := hB.trans (hb4.mono hB.size); have hO4 := ho.below hB; clear hb4)
          | (go_at_call 17; refine (costOf_spec _ _).mono ?_; rintro e w4 ⟨rfl, hb4⟩; replace hB := hB.trans (hb4.mono hB.size); have hO4 := ho.below hB; clear hb4)
          | (go_at_call 10; refine (codeOf_impl _ _ (by assumption)).mono ?_; rintro e w4 ⟨r, rfl, hr, hb4⟩; replace hB := hB.trans (hb4.mono hB.size); clear hb4)
          | (go_at_call 18; refine (codeOf_spec _ _).mono ?_; rintro e w5 ⟨q, rfl, hq, hb5⟩; replace hB := hB.trans (hb5.mono hB.size); clear hb5; obtain rfl : q = r := hq.one hr))
        go_ret
        exact ⟨rfl, hB⟩
  · have hs : decide ((4096 : Int) < (len : Int)) = true := by simp; omega
    go_enter Tryd.func3, Tryd.ntmps3
    go_wp2_with (go_at_call 8; refine (big_any _ _ _ _).mono ?_; rintro e w1 ⟨rfl, rfl⟩; rw [hs])
    go_ret
    exact ⟨rfl, Below.refl _ _⟩
end Go.Proofs.YtifkcojcedgepaaDoor.OpsLaw
