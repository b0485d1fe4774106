/-
  The exact law of KeysIn.
-/
import Derived.Test.YtghmkacamabndaaKys
import Derived.Test.YtghmkacamabndaaMsgLaw
import Derived.Test.YtghmkacamabndaaMsgMk
namespace Go.Proofs.Ytghmkacamabndaa.Mem
open Go.ChangeShapes Go.WideShapes Go.RowKit Base Num Slc Slf Rw Tmr Reg Ex
set_option linter.unusedVariables false
set_option linter.unusedSimpArgs false
set_option maxRecDepth 20000

theorem exKeysIn (v : Value) (l : List M3) (w : World) (h : SlF fL w v l) :
    Calls Try.prog 3 #[v] w fun e w' => e = .returned (.bool true) ∧ Below w.heap.size w w' := by
  by_cases hb : l.length ≤ 1048576
  · have hnn : ((keysIn l) != (keysIn l)) = false := by simp
    generalize hq : keysIn l = q at hnn
    have HQ : Hid (keysIn l = q) := hq
    clear hq
    have hsz : ¬ (1048576 : Int) < (l.length : Int) := by omega
    go_enter Try.func3, Try.ntmps3
    go_wp2_with fail
    go_at_call 4; refine (szMsgS_any _ l _ _ h (by omega)).mono ?_; rintro e w0 ⟨rfl, rfl⟩
    rw [if_neg (show ¬ (1048576 : Int) < (l.length : Int) by omega)]
    go_wp2_with fail
    go_at_call 6; refine (toMsgS_any _ l _ h (by omega)).mono ?_; rintro e w1 ⟨t1, rfl, ht1, hb1⟩
    have hA1 := h.below hb1
    go_wp2_with fail
    go_at_call 5; refine (keysIn_spec _ l _ (ht1.sl okM)).mono ?_; rintro e w2 ⟨rfl, hb2⟩
    rw [HQ.out]
    have hA2 := hA1.below hb2
    have hB2 := below_more hb1 hb2
    go_wp2_with fail
    go_at_call 6; refine (toMsgS_any _ l _ hA2 (by omega)).mono ?_; rintro e w3 ⟨x0, rfl, hx0, hb3⟩
    have hA3 := hA2.below hb3
    have hB3 := below_more hB2 hb3
    go_wp2_with fail
    go_at_call 7; refine (keysIn_impl _ l _ (hx0.sl okM)).mono ?_; rintro e w4 ⟨rfl, hb4⟩
    rw [HQ.out]
    have hA4 := hA3.below hb4
    have hB4 := below_more hB3 hb4
    have hx4 := hx0.below hb4
    go_wp2_with fail
    go_at_call 6; refine (toMsgS_any _ l _ hA4 (by omega)).mono ?_; rintro e w5 ⟨t5, rfl, ht5, hb5⟩
    have hB5 := below_more hB4 hb5
    have hx5 := hx4.below hb5
    go_wp2_with fail
    go_at_call 8; refine (eqMsgS_same _ _ l _ (hx5.sl okM) (ht5.sl okM)).mono ?_; rintro e w6 ⟨rfl, hb6⟩
    go_wp2
    go_ret
    exact ⟨rfl, below_more hB5 hb6⟩
  · have hsz : (1048576 : Int) < (l.length : Int) := by omega
    go_enter Try.func3, Try.ntmps3
    go_wp2_with fail
    go_at_call 4; refine (szMsgS_any _ l _ _ h (by omega)).mono ?_; rintro e w0 ⟨rfl, rfl⟩
    rw [if_pos (show (1048576 : Int) < (l.length : Int) by omega)]
    go_wp2
    go_ret
    exact ⟨rfl, Below.refl _ _⟩
end Go.Proofs.Ytghmkacamabndaa.Mem
