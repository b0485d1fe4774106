/-
  What the laws' own dice answer: a number from nought on, below what was asked; they write into their own block alone.
-/
import Derived.Test.YtggfjghcgacdnaaDraw
import Derived.RegionTactic
namespace Go.Proofs.Ytggfjghcgacdnaa.Dice
open Go.ChangeShapes Go.WideShapes Go.RowKit Base Draw
set_option linter.unusedVariables false
set_option maxRecDepth 20000

/-- Dice over a code: three fields, in the block p. -/
structure DiceAt (w : World) (p : Nat) (a : Option Addr) (len cap : Nat) : Prop where
  c0 : w.cell? ⟨p, 0, none⟩ = some (.slice a len cap)
  c1 : ∃ i : Nat, w.cell? ⟨p, 1, none⟩ = some (.int .i64 i) ∧ i ≤ len
  c2 : ∃ h : Int, w.cell? ⟨p, 2, none⟩ = some (.int .u64 h)
  f : ∀ o, w.frozen? ⟨p, o, none⟩ = false
  code : CodeAt w a len
  apart : 0 < len → ∀ x, a = some x → x.block ≠ p
  few : len ≤ 4096
theorem DiceAt.lt {w : World} {p : Nat} {a : Option Addr} {len cap : Nat} (h : DiceAt w p a len cap) : p < w.heap.size := cell_lt h.c0
theorem DiceAt.onto {w w' : World} {p q : Nat} {a : Option Addr} {len cap : Nat} (h : DiceAt w p a len cap) (ho : Onto q w w') (hq : p ≠ q) (hx : 0 < len → ∀ x, a = some x → x.block ≠ q) : DiceAt w' p a len cap := by
  have hl := h.lt
  obtain ⟨c0, ⟨i, c1, hi⟩, ⟨g, c2⟩, f, hcode, hap, hfew⟩ := h
  exact ⟨by rw [ho.cell (q := ⟨p, 0, none⟩) hq hl]; exact c0, ⟨i, by rw [ho.cell (q := ⟨p, 1, none⟩) hq hl]; exact c1, hi⟩, ⟨g, by rw [ho.cell (q := ⟨p, 2, none⟩) hq hl]; exact c2⟩,
    fun o => by rw [ho.frozen (q := ⟨p, o, none⟩) hq hl]; exact f o, hcode.onto ho hx, hap, hfew⟩
theorem DiceAt.below {w w' : World} {p : Nat} {a : Option Addr} {len cap : Nat} (h : DiceAt w p a len cap) (ho : Below w.heap.size w w') : DiceAt w' p a len cap := by
  have hl := h.lt
  obtain ⟨c0, ⟨i, c1, hi⟩, ⟨g, c2⟩, f, hcode, hap, hfew⟩ := h
  exact ⟨by rw [ho.cell (p := ⟨p, 0, none⟩) hl]; exact c0, ⟨i, by rw [ho.cell (p := ⟨p, 1, none⟩) hl]; exact c1, hi⟩, ⟨g, by rw [ho.cell (p := ⟨p, 2, none⟩) hl]; exact c2⟩,
    fun o => by rw [ho.frozen (p := ⟨p, o, none⟩) hl]; exact f o, hcode.below ho, hap, hfew⟩
theorem DiceAt.set2 {w : World} {p : Nat} {a : Option Addr} {len cap : Nat} (h : DiceAt w p a len cap) (g' : Int) : DiceAt (w.setCell ⟨p, 2, none⟩ (.int .u64 g')) p a len cap := by
  obtain ⟨c0, ⟨i, c1, hi⟩, ⟨g, c2⟩, f, hcode, hap, hfew⟩ := h
  exact ⟨by rw [World.cell?_setCell_other _ _ _ _ (by simp)]; exact c0, ⟨i, by rw [World.cell?_setCell_other _ _ _ _ (by simp)]; exact c1, hi⟩, ⟨g', World.cell?_setCell_same _ _ _ c2⟩,
    fun o => by rw [World.frozen?_setCell]; exact f o, hcode.onto ((Onto.refl p w).setCell (q := ⟨p, 2, none⟩) rfl _) hap, hap, hfew⟩
theorem DiceAt.set1 {w : World} {p : Nat} {a : Option Addr} {len cap : Nat} (h : DiceAt w p a len cap) (j : Nat) (hj : j ≤ len) : DiceAt (w.setCell ⟨p, 1, none⟩ (.int .i64 (j : Int))) p a len cap := by
  obtain ⟨c0, ⟨i, c1, hi⟩, ⟨g, c2⟩, f, hcode, hap, hfew⟩ := h
  exact ⟨by rw [World.cell?_setCell_other _ _ _ _ (by simp)]; exact c0, ⟨j, World.cell?_setCell_same _ _ _ c1, hj⟩, ⟨g, by rw [World.cell?_setCell_other _ _ _ _ (by simp)]; exact c2⟩,
    fun o => by rw [World.frozen?_setCell]; exact f o, hcode.onto ((Onto.refl p w).setCell (q := ⟨p, 1, none⟩) rfl _) hap, hap, hfew⟩
theorem DiceAt.drewN {w : World} {p : Nat} {a : Option Addr} {len cap : Nat} (h : DiceAt w p a len cap) (n : Nat) : DiceAt (w.drewN n) p a len cap := ⟨h.c0, h.c1, h.c2, h.f, h.code, h.apart, h.few⟩
theorem DiceAt.drew {w : World} {p : Nat} {a : Option Addr} {len cap : Nat} (h : DiceAt w p a len cap) : DiceAt w.drew p a len cap := ⟨h.c0, h.c1, h.c2, h.f, h.code, h.apart, h.few⟩

theorem roll_any (a : Option Addr) (len cap : Nat) (seed : Int) (w : World) (hc : CodeAt w a len) (hl : len ≤ 4096) :
    Calls Try.prog 20 #[.slice a len cap, .int .u64 seed] w fun e w' => e = .returned (.pointer (some ⟨w.heap.size, 0, none⟩)) ∧ Below w.heap.size w w' ∧ DiceAt w' w.heap.size a len cap := by
  go_enter Try.func20, Try.ntmps20
  go_wp2
  go_loopw [6] (fun i wr => (∃ k : Nat, k ≤ len ∧ i = .int .i64 k) ∧ Below w.heap.size w wr ∧ DiceAt wr w.heap.size a len cap) (fun i _ => len - (intOf i).toNat)
  case atStart => exact ⟨⟨0, Nat.zero_le _, rfl⟩, (Below.refl _ _).alloc (Nat.le_refl _) _, by simp, ⟨0, by simp, by omega⟩, ⟨_, by simp; rfl⟩, fun o => by simp, hc.below ((Below.refl _ _).alloc (Nat.le_refl _) _), fun h0 x hx => by have := hc.lt h0 x hx; omega, hl⟩
  case round =>
    obtain ⟨⟨k, hk, rfl⟩, hbel, hd⟩ := hrel
    have HB : Hid (Below w.heap.size w wr) := hbel
    have HD : Hid (DiceAt wr w.heap.size a len cap) := hd
    clear hbel
    by_cases hlt : k < len
    · obtain ⟨c0, ⟨i, c1, hi⟩, ⟨g, c2⟩, f, hcode, hap, hfew⟩ := hd
      rcases hcode with h0 | ⟨b, off, rfl, hb, hcell⟩
      · omega
      · obtain ⟨z, hz, hz0, hz1⟩ := hcell k hlt
        have f2 := f 2
        have hne := hap (by omega) _ rfl
        clear hap hcell
        go_wp2
        go_region
        go_wp2
        go_roundw
        case rel => exact ⟨⟨k + 1, by omega, by go_num⟩, (HB.out.setCell (p := ⟨w.heap.size, 2, none⟩) (Nat.le_refl _) _).drew, (HD.out.set2 _).drew⟩
        case measure => simp [intOf]; omega
    · go_wp2
      go_ret
      exact ⟨rfl, HB.out, HD.out⟩

theorem rem1 {b z n : Int} (hb : 0 ≤ b ∧ b ≤ 16777215) (hz0 : 0 ≤ z) (hz1 : z ≤ 255) (hn : 0 < n) : (wrap64 (wrap64 b + z)).tmod n = (((b + z) % n).toNat : Int) := by
  have e1 : wrap64 b = b := by unfold wrap64; omega
  have e2 : wrap64 (b + z) = b + z := by unfold wrap64; omega
  rw [e1, e2, Int.tmod_eq_emod_of_nonneg (by omega)]
  exact (rem_nat hn).1
theorem rem0 {b n : Int} (hb : 0 ≤ b ∧ b ≤ 16777215) (hn : 0 < n) : (wrap64 b).tmod n = ((b % n).toNat : Int) := by
  have e1 : wrap64 b = b := by unfold wrap64; omega
  rw [e1, Int.tmod_eq_emod_of_nonneg (by omega)]
  exact (rem_nat hn).1
theorem below_any (p : Nat) (a : Option Addr) (len cap : Nat) (n : Int) (w : World) (h : DiceAt w p a len cap) (hn : 0 < n) :
    Calls Try.prog 21 #[.pointer (some ⟨p, 0, none⟩), .int .i64 n] w fun e w' => ∃ r : Nat, e = .returned (.int .i64 (r : Int)) ∧ (r : Int) < n ∧ Onto p w w' ∧ DiceAt w' p a len cap := by
  have H : Hid (DiceAt w p a len cap) := h
  obtain ⟨c0, ⟨i, c1, hi⟩, ⟨g, c2⟩, f, hcode, hap, hfew⟩ := h
  have f1 := f 1
  have f2 := f 2
  by_cases hlt : i < len
  · rcases hcode with h0 | ⟨b, off, rfl, hb, hc⟩
    · omega
    · obtain ⟨z, hz, hz0, hz1⟩ := hc i hlt
      have hne : b ≠ p := hap (by omega) _ rfl
      clear hap hc
      go_enter Try.func21, Try.ntmps21
      go_wp2
      go_quiet (fail)
      go_wp2
      go_quiet (fail)
      go_wp2
      go_ret
      exact ⟨_, ret_int (rem1 (and_mask_u _ 16777215 (by omega) (by omega)) hz0 hz1 hn), (rem_nat hn).2, (((Onto.refl p w).setCell rfl _).drewN _).setCell rfl _, ((H.out.set2 _).drewN _).set1 (i + 1) (by omega)⟩
  · have hge : ¬ (i : Int) < (len : Int) := by omega
    go_enter Try.func21, Try.ntmps21
    go_wp2
    go_quiet (fail)
    go_wp2
    go_ret
    exact ⟨_, ret_int (rem0 (and_mask_u _ 16777215 (by omega) (by omega)) hn), (rem_nat hn).2, ((Onto.refl p w).setCell rfl _).drewN _, (H.out.set2 _).drewN _⟩
end Go.Proofs.Ytggfjghcgacdnaa.Dice
