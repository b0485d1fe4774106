/-
  What the laws' drawing functions of chapter 5 answer: any port.
-/
import Derived.Test.YtogmhpjelmlonaaSrlDraw
namespace Go.Proofs.Ytogmhpjelmlonaa.Srl
open Go.ChangeShapes Go.WideShapes Go.RowKit Base Num Slc Rw Reg Tmr Draw
set_option linter.unusedVariables false

set_option maxHeartbeats 4000000 in
theorem l5DrawAny_any {w0 : World} {p : Nat} {a : Option Addr} {len cap : Nat} (w : World) (h : Drawn p a len cap w0 w) :
    Calls Try.prog 72 #[.pointer (some ⟨p, 0, none⟩)] w fun e w' => ∃ s : Sr, e = .returned s.val ∧ Onto p w w' ∧ Drawn p a len cap w0 w' := by
  have hp := h.cur.lt
  have hold : OldC p a len w := ⟨hp, h.cur.code.lt⟩
  have HH : Hid (Onto p w0 w) := h.onto
  have hd0 := h.cur.drawn.alloc (.cells #[.int .i64 0, .bool false, .bool false, .int .i64 0, .int .i64 0, .bool false] 28)
  have r0 := Row.new w #[.int .i64 0, .bool false, .bool false, .int .i64 0, .int .i64 0, .bool false] 28
  clear h
  go_enter Try.func72, Try.ntmps72
  go_wp2_with fail
  go_at_call 88
  refine (l5Draw_any _ hd0).mono ?_
  rintro e w1 ⟨t, rfl, ho1, hd1⟩
  replace r0 := r0.onto ho1 (by omega)
  have hlt1 := r0.lt
  have hP : P2 p a len w w.heap.size w1.heap.size := ⟨hold, Nat.le_refl _, by omega, by omega⟩
  have hS : D2 p a len cap w w.heap.size w1.heap.size (w1.alloc (.cells #[.int .i64 t.d, .bool t.b, .bool t.l, .int .i64 t.n, .int .i64 t.x, .bool t.t] 28)) := ⟨hd1.alloc _, ⟨Sr.nul, r0.alloc _⟩, ⟨t, Row.new _ _ _⟩⟩
  have r3 := Row.new w1 #[.int .i64 t.d, .bool t.b, .bool t.l, .int .i64 t.n, .int .i64 t.x, .bool t.t] 28
  have hp1 : w1.heap.size ≠ p := by omega
  clear hd0 ho1 hd1 r0
  have fin : ∀ W : World, Drawn p a len cap w W → Onto p w W ∧ Drawn p a len cap w0 W := fun W h => ⟨h.onto, HH.out.trans h.onto, h.cur⟩
  rw [Sr.eta]
  go_wp2_with fail
  go_at_call 67
  refine (once_any _ _ hS.drawn (by omega)).mono ?_
  rintro e w2 ⟨q, rfl, ho2, hd2⟩
  replace hS := hS.onto hP ho2 hd2
  replace r3 := r3.onto ho2 (by omega)
  clear ho2 hd2
  cases q
  · obtain ⟨u, r2⟩ := hS.r2
    have c3 := r3.cell
    go_wp2_with (refine st_sr rfl rfl rfl rfl r2 rfl ?_; intro w3 r4 ho4 hs4)
    refine ret_row rfl rfl r4 und_sr rfl info_sr rfl ?_
    exact ⟨t, rfl, fin _ (hS.fin hP ho4)⟩
  go_wp2_with fail
  go_at_call 68
  refine (below_any _ _ hS.drawn (by omega)).mono ?_
  rintro e w3 ⟨r, rfl, hr, ho3, hd3⟩
  replace hS := hS.onto hP ho3 hd3
  replace r3 := r3.onto ho3 (by omega)
  clear ho3 hd3
  obtain rfl | rfl | rfl | rfl | rfl | rfl : r = 0 ∨ r = 1 ∨ r = 2 ∨ r = 3 ∨ r = 4 ∨ r = 5 := by omega
  · go_wp2_with fail
    go_at_call 69
    refine (num_any _ _ hS.drawn (by omega) (by omega)).mono ?_
    rintro e w4 ⟨x, rfl, hx, ho4, hd4⟩
    replace hS := hS.onto hP ho4 hd4
    replace r3 := r3.onto ho4 (by omega)
    obtain ⟨u, r2⟩ := hS.r2
    have c3 := r3.cell
    have f3 := r3.free
    go_wp2_with (refine st_sr rfl rfl rfl rfl (r2.setOther ⟨w1.heap.size, 0, none⟩ (.int .i64 x) (by simp; omega)) rfl ?_; intro w5 r5 ho5 hs5)
    refine ret_row rfl rfl r5 und_sr rfl info_sr rfl ?_
    exact ⟨⟨x, t.b, t.l, t.n, t.x, t.t⟩, rfl, fin _ (drawn_other (drawn_other hS.drawn (one_cell _) hP.n3 hP.old) ho5 hP.n2 hP.old)⟩
  · obtain ⟨u, r2⟩ := hS.r2
    have c3 := r3.cell
    have f3 := r3.free
    go_wp2_with (refine st_sr rfl rfl rfl rfl (r2.setOther ⟨w1.heap.size, 1, none⟩ (.bool (!t.b)) (by simp; omega)) rfl ?_; intro w5 r5 ho5 hs5)
    refine ret_row rfl rfl r5 und_sr rfl info_sr rfl ?_
    exact ⟨⟨t.d, !t.b, t.l, t.n, t.x, t.t⟩, rfl, fin _ (drawn_other (drawn_other hS.drawn (one_cell _) hP.n3 hP.old) ho5 hP.n2 hP.old)⟩
  · obtain ⟨u, r2⟩ := hS.r2
    have c3 := r3.cell
    have f3 := r3.free
    go_wp2_with (refine st_sr rfl rfl rfl rfl (r2.setOther ⟨w1.heap.size, 2, none⟩ (.bool (!t.l)) (by simp; omega)) rfl ?_; intro w5 r5 ho5 hs5)
    refine ret_row rfl rfl r5 und_sr rfl info_sr rfl ?_
    exact ⟨⟨t.d, t.b, !t.l, t.n, t.x, t.t⟩, rfl, fin _ (drawn_other (drawn_other hS.drawn (one_cell _) hP.n3 hP.old) ho5 hP.n2 hP.old)⟩
  · go_wp2_with fail
    go_at_call 70
    refine (from_any _ _ _ hS.drawn (by omega) (by omega) (by omega)).mono ?_
    rintro e w4 ⟨x, rfl, hx, ho4, hd4⟩
    replace hS := hS.onto hP ho4 hd4
    replace r3 := r3.onto ho4 (by omega)
    obtain ⟨u, r2⟩ := hS.r2
    have c3 := r3.cell
    have f3 := r3.free
    go_wp2_with (refine st_sr rfl rfl rfl rfl (r2.setOther ⟨w1.heap.size, 3, none⟩ (.int .i64 x) (by simp; omega)) rfl ?_; intro w5 r5 ho5 hs5)
    refine ret_row rfl rfl r5 und_sr rfl info_sr rfl ?_
    exact ⟨⟨t.d, t.b, t.l, x, t.x, t.t⟩, rfl, fin _ (drawn_other (drawn_other hS.drawn (one_cell _) hP.n3 hP.old) ho5 hP.n2 hP.old)⟩
  · go_wp2_with fail
    go_at_call 69
    refine (num_any _ _ hS.drawn (by omega) (by omega)).mono ?_
    rintro e w4 ⟨x, rfl, hx, ho4, hd4⟩
    replace hS := hS.onto hP ho4 hd4
    replace r3 := r3.onto ho4 (by omega)
    obtain ⟨u, r2⟩ := hS.r2
    have c3 := r3.cell
    have f3 := r3.free
    go_wp2_with (refine st_sr rfl rfl rfl rfl (r2.setOther ⟨w1.heap.size, 4, none⟩ (.int .i64 x) (by simp; omega)) rfl ?_; intro w5 r5 ho5 hs5)
    refine ret_row rfl rfl r5 und_sr rfl info_sr rfl ?_
    exact ⟨⟨t.d, t.b, t.l, t.n, x, t.t⟩, rfl, fin _ (drawn_other (drawn_other hS.drawn (one_cell _) hP.n3 hP.old) ho5 hP.n2 hP.old)⟩
  · obtain ⟨u, r2⟩ := hS.r2
    have c3 := r3.cell
    have f3 := r3.free
    go_wp2_with (refine st_sr rfl rfl rfl rfl (r2.setOther ⟨w1.heap.size, 5, none⟩ (.bool (!t.t)) (by simp; omega)) rfl ?_; intro w5 r5 ho5 hs5)
    refine ret_row rfl rfl r5 und_sr rfl info_sr rfl ?_
    exact ⟨⟨t.d, t.b, t.l, t.n, t.x, !t.t⟩, rfl, fin _ (drawn_other (drawn_other hS.drawn (one_cell _) hP.n3 hP.old) ho5 hP.n2 hP.old)⟩
end Go.Proofs.Ytogmhpjelmlonaa.Srl
