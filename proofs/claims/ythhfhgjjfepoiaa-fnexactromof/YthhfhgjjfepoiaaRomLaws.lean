/-
  The laws of chapter 2's functions: at every list the program answers as the model; it writes into no argument; its answer is its own memory.
-/
import Derived.Test.YthhfhgjjfepoiaaRomOf
import Derived.Test.YthhfhgjjfepoiaaEx
namespace Go.Proofs.Ythhfhgjjfepoiaa.RomLaws
open Go.ChangeShapes Go.WideShapes Go.RowKit Base Slc Num Rom RomOf Ex
set_option linter.unusedVariables false
set_option linter.unusedSimpArgs false

theorem exCheckOf (v : Value) (l : List Int) (w : World) (h : Sl w v l) :
    Calls Try.prog 4 #[v] w fun e w' => e = .returned (.bool true) ∧ Below w.heap.size w w' := by
  have hA := h
  obtain ⟨a, cap, rfl, hat, hlc, hcm, hnil⟩ := h
  clear hat hnil
  unfold maxLen at hcm
  by_cases hb : l.length ≤ 1048576
  · have hB := Below.refl w.heap.size w
    go_enter Try.func4, Try.ntmps4
    go_wp2_with fail
    go_at_call 20; refine (to_any _ l _ hA (by omega)).mono ?_; rintro e w1 ⟨t1, rfl, ht1, hb1⟩
    have hA1 := hA.below hb1
    have hB1 := hB.trans (hb1.mono hB.size)
    go_wp2_with fail
    go_at_call 17; refine (checkOf_specS _ l _ ht1.sl).mono ?_; rintro e w2 ⟨rfl, rfl⟩
    go_wp2_with fail
    go_at_call 20; refine (to_any _ l _ hA1 (by omega)).mono ?_; rintro e w3 ⟨x0, rfl, hx0, hb3⟩
    have hA3 := hA1.below hb3
    have hB3 := hB1.trans (hb3.mono hB1.size)
    go_wp2_with fail
    go_at_call 16; refine (checkOf_implS _ l _ hx0.sl).mono ?_; rintro e w4 ⟨rfl, rfl⟩
    go_wp2_with fail
    go_at_call 20; refine (to_any _ l _ hA3 (by omega)).mono ?_; rintro e w5 ⟨t5, rfl, ht5, hb5⟩
    have hB5 := hB3.trans (hb5.mono hB3.size)
    have hx5 := hx0.below hb5
    have hd : decide (l = l) = true := by simp
    go_wp2_with fail
    go_at_call 21; refine (eq_any _ _ l l _ hx5.sl ht5.sl).mono ?_; rintro e w6 ⟨rfl, n6, rfl⟩
    go_wp2
    go_ret
    exact ⟨rfl, below_drewN hB5 _⟩
  · go_enter Try.func4, Try.ntmps4
    go_wp2
    go_ret
    exact ⟨rfl, Below.refl _ _⟩

theorem exRomOk (v : Value) (l : List Int) (w : World) (h : Sl w v l) :
    Calls Try.prog 5 #[v] w fun e w' => e = .returned (.bool true) ∧ Below w.heap.size w w' := by
  have hA := h
  obtain ⟨a, cap, rfl, hat, hlc, hcm, hnil⟩ := h
  clear hat hnil
  unfold maxLen at hcm
  by_cases hb : l.length ≤ 1048576
  · have hB := Below.refl w.heap.size w
    go_enter Try.func5, Try.ntmps5
    go_wp2_with fail
    go_at_call 20; refine (to_any _ l _ hA (by omega)).mono ?_; rintro e w1 ⟨t1, rfl, ht1, hb1⟩
    have hA1 := hA.below hb1
    have hB1 := hB.trans (hb1.mono hB.size)
    go_wp2_with fail
    go_at_call 15; refine (romOk_specS _ l _ ht1.sl).mono ?_; rintro e w2 ⟨rfl, n2, rfl⟩
    have hA2 := hA1.drewN n2
    have hB2 := below_drewN hB1 n2
    go_wp2_with fail
    go_at_call 20; refine (to_any _ l _ hA2 (by omega)).mono ?_; rintro e w3 ⟨x0, rfl, hx0, hb3⟩
    have hA3 := hA2.below hb3
    have hB3 := hB2.trans (hb3.mono hB2.size)
    go_wp2_with fail
    go_at_call 14; refine (romOk_implS _ l _ hx0.sl).mono ?_; rintro e w4 ⟨rfl, n4, rfl⟩
    have hA4 := hA3.drewN n4
    have hB4 := below_drewN hB3 n4
    have hx4 := hx0.drewN n4
    go_wp2_with fail
    go_at_call 20; refine (to_any _ l _ hA4 (by omega)).mono ?_; rintro e w5 ⟨t5, rfl, ht5, hb5⟩
    have hB5 := hB4.trans (hb5.mono hB4.size)
    have hx5 := hx4.below hb5
    have hd : decide (l = l) = true := by simp
    go_wp2_with fail
    go_at_call 21; refine (eq_any _ _ l l _ hx5.sl ht5.sl).mono ?_; rintro e w6 ⟨rfl, n6, rfl⟩
    go_wp2
    go_ret
    exact ⟨rfl, below_drewN hB5 _⟩
  · go_enter Try.func5, Try.ntmps5
    go_wp2
    go_ret
    exact ⟨rfl, Below.refl _ _⟩

theorem romOf_len (l : List Int) : (romOf l).length ≤ l.length + 1 := by
  unfold romOf; split <;> simp
theorem apart {x y : Value} {B wsize : Nat} (hx : ∀ k, x.ownBlock = some k → B ≤ k ∧ k < wsize) {B' : Nat} {sz : Nat} (hy : ∀ k, y.ownBlock = some k → B' ≤ k ∧ k < sz) (h : wsize ≤ B') : ∀ k, y.ownBlock = some k → x.ownBlock ≠ some k := by
  intro k hk hx'
  have := hx k hx'
  have := hy k hk
  omega
theorem apart' {x y : Value} {B wsize : Nat} (hx : ∀ k, x.ownBlock = some k → B ≤ k ∧ k < wsize) {B' : Nat} {sz : Nat} (hy : ∀ k, y.ownBlock = some k → B' ≤ k ∧ k < sz) (h : wsize ≤ B') : ∀ k, x.ownBlock = some k → y.ownBlock ≠ some k := by
  intro k hk hx'
  have := hx k hk
  have := hy k hx'
  omega

set_option maxHeartbeats 1000000 in
theorem exRomOf (v : Value) (l : List Int) (w : World) (h : Sl w v l) :
    Calls Try.prog 6 #[v] w fun e w' => e = .returned (.bool true) ∧ Below w.heap.size w w' := by
  have hA := h
  obtain ⟨a, cap, rfl, hat, hlc, hcm, hnil⟩ := h
  clear hat hnil
  unfold maxLen at hcm
  by_cases hb : l.length ≤ 1048576
  · have hB := Below.refl w.heap.size w
    have hd : decide (l = l) = true := by simp
    have hd2 : decide (romOf l = romOf l) = true := by simp
    have hrl := romOf_len l
    go_enter Try.func6, Try.ntmps6
    go_wp2_with fail
    go_at_call 20; refine (to_any _ l _ hA (by omega)).mono ?_; rintro e w1 ⟨t1, rfl, ht1, hb1⟩
    have hA1 := hA.below hb1
    have hB1 := hB.trans (hb1.mono hB.size)
    go_wp2_with fail
    go_at_call 10; refine (romOf_spec _ l _ ht1.sl (by omega)).mono ?_; rintro e w2 ⟨r0, rfl, hr2, hb2⟩
    have hA2 := hA1.below hb2
    have hB2 := hB1.trans (hb2.mono hB1.size)
    go_wp2_with fail
    go_at_call 20; refine (to_any _ l _ hA2 (by omega)).mono ?_; rintro e w3 ⟨x0, rfl, hx3, hb3⟩
    have hA3 := hA2.below hb3
    have hB3 := hB2.trans (hb3.mono hB2.size)
    have hr3 := hr2.below hb3
    go_wp2_with fail
    go_at_call 9; refine (romOf_impl _ l _ hx3.sl (by omega)).mono ?_; rintro e w4 ⟨g0, rfl, hg4, hb4⟩
    have hA4 := hA3.below hb4
    have hB4 := hB3.trans (hb4.mono hB3.size)
    have hr4 := hr3.below hb4
    have hx4 := hx3.below hb4
    go_wp2_with fail
    go_at_call 21; refine (eq_any _ _ (romOf l) (romOf l) _ hg4.sl hr4.sl).mono ?_; rintro e w5 ⟨rfl, n5, rfl⟩
    have hA5 := hA4.drewN n5
    have hB5 := below_drewN hB4 n5
    have hr5 := hr4.drewN n5
    have hx5 := hx4.drewN n5
    have hg5 := hg4.drewN n5
    go_wp2_with fail
    go_at_call 20; refine (to_any _ l _ hA5 (by omega)).mono ?_; rintro e w6 ⟨t6, rfl, ht6, hb6⟩
    have hA6 := hA5.below hb6
    have hB6 := hB5.trans (hb6.mono hB5.size)
    have hr6 := hr5.below hb6
    have hx6 := hx5.below hb6
    have hg6 := hg5.below hb6
    go_wp2_with fail
    go_at_call 21; refine (eq_any _ _ l l _ hx6.sl ht6.sl).mono ?_; rintro e w7 ⟨rfl, n7, rfl⟩
    have hA7 := hA6.drewN n7
    have hB7 := below_drewN hB6 n7
    have hr7 := hr6.drewN n7
    have hx7 := hx6.drewN n7
    have hg7 := hg6.drewN n7
    go_wp2_with fail
    go_at_call 22; refine (mark_any _ l _ _ 1 hx7 (by omega) (by omega)).mono ?_; rintro e w8 ⟨rfl, hx8, hgr8⟩
    have hA8 := hA7.grown hgr8 (fun h0 k hk e => by have := hA.lt h0 k e; have := (hx3.lt k hk).1; have := hB2.size; omega)
    have hB8 := hB7.grown hgr8 hB7.size (fun k hk => by have := (hx3.lt k hk).1; have := hB2.size; omega)
    have hr8 := hr7.grown hgr8 (fun k hk e => by have := (hx3.lt k hk).1; have := (hr2.lt k e).2; omega)
    have hg8 := hg7.grown hgr8 (fun k hk e => by have := (hx3.lt k hk).2; have := (hg4.lt k e).1; omega)
    go_wp2_with fail
    go_at_call 21; refine (eq_any _ _ (romOf l) (romOf l) _ hg8.sl hr8.sl).mono ?_; rintro e w9 ⟨rfl, n9, rfl⟩
    have hA9 := hA8.drewN n9
    have hB9 := below_drewN hB8 n9
    have hr9 := hr8.drewN n9
    have hg9 := hg8.drewN n9
    go_wp2_with fail
    go_at_call 22; refine (mark_any _ (romOf l) _ _ 1 hg9 (by omega) (by omega)).mono ?_; rintro e w10 ⟨rfl, hg10, hgr10⟩
    have hA10 := hA9.grown hgr10 (fun h0 k hk e => by have := hA.lt h0 k e; have := (hg4.lt k hk).1; have := hB3.size; omega)
    have hB10 := hB9.grown hgr10 hB9.size (fun k hk => by have := (hg4.lt k hk).1; have := hB3.size; omega)
    have hr10 := hr9.grown hgr10 (fun k hk e => by have := (hg4.lt k hk).1; have := (hr2.lt k e).2; have := hb3.size; omega)
    go_wp2_with fail
    go_at_call 23; refine (held_any _ (romOf l).length _ 1 hg10.sl (by omega) (by omega)).mono ?_; rintro e w11 ⟨rfl, rfl⟩
    go_wp2_with fail
    go_at_call 20; refine (to_any _ l _ hA10 (by omega)).mono ?_; rintro e w12 ⟨t12, rfl, ht12, hb12⟩
    have hB12 := hB10.trans (hb12.mono hB10.size)
    have hr12 := hr10.below hb12
    have hg12 := hg10.below hb12
    go_wp2_with fail
    go_at_call 9; refine (romOf_impl _ l _ ht12.sl (by omega)).mono ?_; rintro e w13 ⟨h0, rfl, hh13, hb13⟩
    have hB13 := hB12.trans (hb13.mono hB12.size)
    have hr13 := hr12.below hb13
    have hg13 := hg12.below hb13
    go_wp2_with fail
    go_at_call 21; refine (eq_any _ _ (romOf l) (romOf l) _ hh13.sl hr13.sl).mono ?_; rintro e w14 ⟨rfl, n14, rfl⟩
    have hB14 := below_drewN hB13 n14
    have hg14 := hg13.drewN n14
    go_wp2_with fail
    go_at_call 23; refine (held_any _ (romOf l).length _ 1 hg14.sl (by omega) (by omega)).mono ?_; rintro e w15 ⟨rfl, rfl⟩
    go_wp2
    go_ret
    exact ⟨rfl, hB14⟩
  · go_enter Try.func6, Try.ntmps6
    go_wp2
    go_ret
    exact ⟨rfl, Below.refl _ _⟩
end Go.Proofs.Ythhfhgjjfepoiaa.RomLaws
