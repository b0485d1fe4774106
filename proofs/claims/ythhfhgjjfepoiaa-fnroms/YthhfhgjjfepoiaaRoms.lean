/-
  The law of the roms: what is made a rom is one, and begins with its code; the program answers as the model at what is drawn.
-/
import Derived.Test.YthhfhgjjfepoiaaPrg
import Derived.Test.YthhfhgjjfepoiaaEx
namespace Go.Proofs.Ythhfhgjjfepoiaa.Roms
open Go.ChangeShapes Go.WideShapes Go.RowKit Base Draw Dice Slc Num Rom RomOf DrawRom Prg Ex
set_option linter.unusedVariables false
set_option linter.unusedSimpArgs false

theorem big_any (a : Option Addr) (len cap : Nat) (w : World) :
    Calls Try.prog 7 #[.slice a len cap] w fun e w' => e = .returned (.bool (decide ((4096 : Int) < (len : Int)))) ∧ w' = w := by
  go_enter Try.func7, Try.ntmps7
  go_wp2
  go_ret
  exact ⟨rfl, rfl⟩
theorem rom_good {l : List Int} (h1 : 1 ≤ l.length) (h127 : l.length ≤ 127) (hall : l.all bok = true) : romOk (l ++ [chk l]) = true := by
  have hlen : (l ++ [chk l]).length = l.length + 1 := by simp
  rw [romOk_mid (by omega) (by omega) (all_app hall (by simp [chk_ok l hall])), hlen, Nat.add_sub_cancel]
  simp
theorem romOf_good {l : List Int} (h : romOk (l ++ [chk l]) = true) : romOf l = l ++ [chk l] := by simp [romOf, h]
theorem own_take {base : Nat} {w : World} {a : Option Addr} {cap : Nat} {l m : List Int} (h : Own base w (.slice a (l ++ m).length cap) (l ++ m)) (h0 : 0 < (l ++ m).length) : Sl w (.slice a l.length cap) l := by
  obtain ⟨g, c, he, hb, hg, hlc, hcm⟩ := h.block h0
  simp only [Value.slice.injEq] at he
  obtain ⟨rfl, _, rfl⟩ := he
  obtain ⟨a2, c2, he2, hi, _⟩ := h.shape
  simp only [Value.slice.injEq] at he2
  obtain ⟨rfl, _, rfl⟩ := he2
  have ht := hi.take l.length (by simp)
  rw [List.take_left] at ht
  rw [List.length_append] at hlc
  exact ⟨_, _, rfl, ht, by omega, hcm, by simp⟩

set_option maxRecDepth 100000 in
set_option maxHeartbeats 2000000 in
theorem roms_any (a : Option Addr) (len cap : Nat) (w : World) (hc : CodeAt w a len) :
    Calls Try.prog 3 #[.slice a len cap] w fun e w' => e = .returned (.bool true) ∧ Below w.heap.size w w' := by
  by_cases hl : len ≤ 4096
  · have hs : decide ((4096 : Int) < (len : Int)) = false := by simp; omega
    go_enter Try.func3, Try.ntmps3
    go_wp2_with fail
    go_at_call 7; refine (big_any _ _ _ _).mono ?_; rintro e w0 ⟨rfl, rfl⟩; rw [hs]
    go_wp2_with fail
    go_at_call 8; refine (drawRomOf_any a len cap _ hc hl).mono ?_; rintro e w1 ⟨v, l, rfl, ho1, hl1, hB1⟩
    have hc1 := hc.below hB1
    go_wp2_with fail
    go_at_call 9; refine (romOf_impl _ l _ ho1.sl (by omega)).mono ?_; rintro e w2 ⟨x, rfl, hx2, hb2⟩
    have hB2 := hB1.trans (hb2.mono hB1.size)
    have hc2 := hc1.below hb2
    have ho2 := ho1.below hb2
    go_wp2_with fail
    go_at_call 10; refine (romOf_spec _ l _ ho2.sl (by omega)).mono ?_; rintro e w3 ⟨y, rfl, hy3, hb3⟩
    have hB3 := hB2.trans (hb3.mono hB2.size)
    have hc3 := hc2.below hb3
    have hx3 := hx2.below hb3
    go_wp2_with fail
    go_at_call 11; refine (drawRomOk_any a len cap _ hc3 hl).mono ?_; rintro e w4 ⟨r, lr, rfl, hr4, hlr, hb4⟩
    have hB4 := hB3.trans (hb4.mono hB3.size)
    have hc4 := hc3.below hb4
    have hx4 := hx3.below hb4
    have hy4 := hy3.below hb4
    go_wp2_with fail
    go_at_call 12; refine (drawCheckOf_any a len cap _ hc4 hl).mono ?_; rintro e w5 ⟨cv, lc, rfl, hc5v, hlc, hb5⟩
    have hB5 := hB4.trans (hb5.mono hB4.size)
    have hc5 := hc4.below hb5
    have hx5 := hx4.below hb5
    have hy5 := hy4.below hb5
    have hr5 := hr4.below hb5
    have hd2 : decide (romOf l = romOf l) = true := by simp
    go_wp2_with fail
    go_at_call 13; refine (like_any _ _ (romOf l) (romOf l) _ hx5.sl hy5.sl).mono ?_; rintro e w6 ⟨rfl, n6, hw6⟩
    have hb6 := drew_below hw6
    clear hw6
    have hB6 := hB5.trans (hb6.mono hB5.size)
    have hr6 := hr5.below hb6
    have hcv6 := hc5v.below hb6
    have hc6 := hc5.below hb6
    go_wp2_with fail
    go_at_call 14; refine (romOk_implS _ lr _ hr6.sl).mono ?_; rintro e w7 ⟨rfl, n7, hw7⟩
    have hb7 := drew_below hw7
    clear hw7
    have hB7 := hB6.trans (hb7.mono hB6.size)
    have hr7 := hr6.below hb7
    have hcv7 := hcv6.below hb7
    have hc7 := hc6.below hb7
    go_wp2_with fail
    go_at_call 15; refine (romOk_specS _ lr _ hr7.sl).mono ?_; rintro e w8 ⟨rfl, n8, hw8⟩
    have hb8 := drew_below hw8
    clear hw8
    have hB8 := hB7.trans (hb8.mono hB7.size)
    have hcv8 := hcv7.below hb8
    have hc8 := hc7.below hb8
    go_wp2_with fail
    go_at_call 16; refine (checkOf_implS _ lc _ hcv8.sl).mono ?_; rintro e w9 ⟨rfl, rfl⟩
    go_wp2_with fail
    go_at_call 17; refine (checkOf_specS _ lc _ hcv8.sl).mono ?_; rintro e w10 ⟨rfl, rfl⟩
    go_wp2_with fail
    go_at_call 19; refine (roll_any a len cap _ _ hc8 hl).mono ?_; rintro e w11 ⟨rfl, hb11, hdice⟩
    have hB11 := hB8.trans (hb11.mono hB8.size)
    go_wp2_with fail
    go_at_call 18; refine (program_any _ hdice).mono ?_; rintro e w12 ⟨p, lp, rfl, hp12, hlp, hlp1, hallp, hrol⟩
    have hB12 := hB11.trans (hrol.1.below hB8.size hB11.size)
    have hgood := rom_good hlp1 (by omega) hallp
    have HQ := romOf_good hgood
    go_wp2_with fail
    go_at_call 9; refine (romOf_impl _ lp _ hp12.sl (by omega)).mono ?_; rintro e w13 ⟨q, rfl, hq13, hb13⟩
    rw [hgood]
    rw [HQ] at hq13
    have hB13 := hB12.trans (hb13.mono hB12.size)
    have hp13 := hp12.below hb13
    go_wp2_with fail
    go_at_call 14; refine (romOk_implS _ (lp ++ [chk lp]) _ hq13.sl).mono ?_; rintro e w14 ⟨rfl, n14, hw14⟩
    have hb14 := drew_below hw14
    clear hw14
    rw [hgood]
    have hB14 := hB13.trans (hb14.mono hB13.size)
    have hp14 := hp13.below hb14
    have hq14 := hq13.below hb14
    obtain ⟨ap, capp, hpe, hpi, hpm, hpx⟩ := hp14.shape
    obtain ⟨g, capq, rfl, hqb, hqg, hqlc, hqcm⟩ := hq14.block (by simp)
    have hslq := own_take hq14 (by simp)
    have hslp := hp14.sl
    subst hpe
    have hlen : (lp ++ [chk lp]).length = lp.length + 1 := by simp
    rw [hlen]
    rw [hlen] at hqlc
    unfold maxLen at hqcm hpm
    have hlc2 : lp.length ≤ capq := by omega
    have hd3 : decide (lp = lp) = true := by simp
    clear hp14 hq14 hp13 hq13 hp12 HQ hpi hpx hgood
    go_wp2_with fail
    go_at_call 13; refine (like_any _ _ lp lp _ hslq hslp).mono ?_; rintro e w15 ⟨rfl, n15, hw15⟩
    have hb15 := drew_below hw15
    clear hw15
    have hB15 := hB14.trans (hb15.mono hB14.size)
    go_wp2
    go_ret
    exact ⟨rfl, hB15⟩
  · have hs : decide ((4096 : Int) < (len : Int)) = true := by simp; omega
    go_enter Try.func3, Try.ntmps3
    go_wp2_with (go_at_call 7; refine (big_any _ _ _ _).mono ?_; rintro e w1 ⟨rfl, rfl⟩; rw [hs])
    go_ret
    exact ⟨rfl, Below.refl _ _⟩
end Go.Proofs.Ythhfhgjjfepoiaa.Roms
