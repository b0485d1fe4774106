/-
  What the laws' drawing functions of chapter 3 answer, and that each code has one name and each name one code.
-/
import Derived.Test.YtifkcojcedgepaaDoorOps
import Derived.Test.YtifkcojcedgepaaDoorBend
namespace Go.Proofs.YtifkcojcedgepaaDoor.OpDraw
open Go.ChangeShapes Go.WideShapes Go.RowKit Base Draw Slc Bend Opl
set_option linter.unusedVariables false

theorem l3Draw_any {w0 : World} {p : Nat} {a : Option Addr} {len cap : Nat} (w : World) (h : Drawn p a len cap w0 w) :
    Calls Tryd.prog 21 #[.pointer (some ⟨p, 0, none⟩)] w fun e w' => ∃ x : Int, e = .returned (.int .i64 x) ∧ InR x ∧ Onto p w w' ∧ Drawn p a len cap w0 w' := by
  have hp := h.cur.lt
  go_enter Tryd.func21, Tryd.ntmps21
  go_wp2_with fail
  go_at_call 23
  refine (once_any _ _ h (by omega)).mono ?_
  rintro e w1 ⟨r, rfl, ho1, hd1⟩
  cases r
  · go_wp2_with fail
    go_at_call 22
    refine (below_any _ _ hd1 (by omega)).mono ?_
    rintro e w2 ⟨r, rfl, hr, ho2, hd2⟩
    go_wp2
    go_ret
    exact ⟨_, rfl, inR_mk (by omega) (by omega), ho1.trans ho2, hd2⟩
  · go_wp2_with fail
    go_at_call 27
    refine (odd_any _ hd1).mono ?_
    rintro e w2 ⟨x, rfl, hx, ho2, hd2⟩
    have hp2 : p < w2.heap.size := hd2.cur.lt
    go_wp2_with fail
    go_at_call 22
    refine (below_any _ _ (hd2.alloc _) (by omega)).mono ?_
    rintro e w3 ⟨r, rfl, hr, ho3, hd3⟩
    obtain ⟨z, hz, hzr⟩ := pick ho3 hp2 (by simp [InR]; exact hx) r (by simp; omega)
    go_wp2
    go_ret
    exact ⟨z, rfl, hzr, (ho1.trans ho2).trans (((Onto.refl p w2).alloc _).trans ho3), hd3⟩
theorem drawNameOf_any (a : Option Addr) (len cap : Nat) (w : World) (hc : CodeAt w a len) (hl : len ≤ 4096) :
    Calls Tryd.prog 13 #[.slice a len cap] w fun e w' => ∃ x : Int, e = .returned (.int .i64 x) ∧ InR x ∧ Below w.heap.size w w' := by
  go_enter Tryd.func13, Tryd.ntmps13
  go_wp2_with (first
    | (go_at_call 20; refine (new_any a len cap w hc hl).mono ?_; rintro e w1 ⟨rfl, hb, hcur⟩; have hd := hcur.drawn)
    | (go_at_call 21; refine (l3Draw_any _ hd).mono ?_; rintro e w2 ⟨x, rfl, hxr, ho, hd2⟩))
  go_ret
  exact ⟨_, rfl, hxr, hb.trans (ho.below (Nat.le_refl _) hb.size)⟩
theorem lines : ∀ j : Fin 31, (line j.val).1.length = 3 ∧ 1 ≤ (line j.val).2.1 ∧ (line j.val).2.1 ≤ 2 ∧ (line j.val).2.1 ≤ (line j.val).2.2 ∧ (line j.val).2.2 ≤ 4 := by decide +kernel
theorem drawCodeOf_any (a : Option Addr) (len cap : Nat) (w : World) (hc : CodeAt w a len) (hl : len ≤ 4096) :
    Calls Tryd.prog 14 #[.slice a len cap] w fun e w' => ∃ s : ByteArray, e = .returned (.string s) ∧ s.size ≤ 5 ∧ Below w.heap.size w w' := by
  go_enter Tryd.func14, Tryd.ntmps14
  go_wp2_with fail
  go_at_call 20
  refine (new_any a len cap w hc hl).mono ?_
  rintro e w1 ⟨rfl, hb1, hcur⟩
  have hd1 := hcur.drawn
  clear hcur
  go_wp2_with fail
  go_at_call 22
  refine (below_any _ _ hd1 (by omega)).mono ?_
  rintro e w2 ⟨k, rfl, hk, ho2, hd2⟩
  clear hd1
  have hb2 := hb1.trans (ho2.below (Nat.le_refl _) hb1.size)
  go_wp2_with fail
  go_at_call 15
  refine (nameOf_spec _ _).mono ?_
  rintro e w3 ⟨rfl, hb3⟩
  have hd3 := hd2.below hb3
  replace hb3 := hb2.trans (hb3.mono hb2.size)
  clear hd2
  have hsz : (⟨(line k).1.toArray⟩ : ByteArray).size = 3 := by
    show (line k).1.toArray.size = 3
    simpa using (lines ⟨k, by omega⟩).1
  go_wp2_with fail
  go_at_call 23
  refine (once_any _ _ hd3 (by omega)).mono ?_
  rintro e w4 ⟨r, rfl, ho4, hd4⟩
  clear hd3
  have hb4 := hb3.trans (ho4.below (B := w.heap.size) (Nat.le_refl _) hb3.size)
  cases r
  · go_wp2
    go_ret
    exact ⟨_, rfl, by omega, hb4⟩
  · go_wp2_with fail
    go_at_call 24
    refine (bend_any _ _ _ hd4 (by omega) (by decide) (by decide)).mono ?_
    rintro e w5 ⟨s, rfl, hs, ho5, hd5⟩
    have hb5 := hb4.trans (ho5.below (B := w.heap.size) (Nat.le_refl _) hb4.size)
    go_wp2
    go_ret
    exact ⟨_, rfl, by omega, hb5⟩
end Go.Proofs.YtifkcojcedgepaaDoor.OpDraw
