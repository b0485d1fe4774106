/-
  What the laws' own drawing functions answer: some number within its bounds; they write into their cursor alone. More of the drawing: a number from here to there; what a draw leaves as it was, beside the blocks that were laid since.
-/
import Derived.Test.YtggfjghcgacdnaaRows
import Derived.WalkKit
import Derived.WalkLawsBesides
import Derived.Deep.QuietTactic
import Derived.BigQuiet
import Derived.Test.YtggfjghcgacdnaaBase
namespace Go.Proofs.Ytggfjghcgacdnaa.Draw
open Go.ChangeShapes Go.WideShapes Go.RowKit Base
set_option linter.unusedVariables false
set_option maxRecDepth 20000

/-- A cursor over a code: its three fields, in the block p. -/
structure CurAt (w : World) (p : Nat) (a : Option Addr) (len cap : Nat) : Prop where
  c0 : w.cell? ⟨p, 0, none⟩ = some (.slice a len cap)
  c1 : ∃ i : Nat, w.cell? ⟨p, 1, none⟩ = some (.int .i64 i) ∧ i ≤ len
  c2 : ∃ h : Int, w.cell? ⟨p, 2, none⟩ = some (.int .i64 h)
  f : ∀ o, w.frozen? ⟨p, o, none⟩ = false
  code : CodeAt w a len
  apart : 0 < len → ∀ x, a = some x → x.block ≠ p
  few : len ≤ 4096
theorem CurAt.lt {w : World} {p : Nat} {a : Option Addr} {len cap : Nat} (h : CurAt w p a len cap) : p < w.heap.size := cell_lt h.c0

theorem CurAt.onto {w w' : World} {p q : Nat} {a : Option Addr} {len cap : Nat} (h : CurAt w p a len cap) (ho : Onto q w w') (hq : p ≠ q) (hx : 0 < len → ∀ x, a = some x → x.block ≠ q) : CurAt w' p a len cap := by
  have hl := h.lt
  obtain ⟨c0, ⟨i, c1, hi⟩, ⟨g, c2⟩, f, hcode, hap, hfew⟩ := h
  exact ⟨by rw [ho.cell (q := ⟨p, 0, none⟩) hq hl]; exact c0, ⟨i, by rw [ho.cell (q := ⟨p, 1, none⟩) hq hl]; exact c1, hi⟩, ⟨g, by rw [ho.cell (q := ⟨p, 2, none⟩) hq hl]; exact c2⟩,
    fun o => by rw [ho.frozen (q := ⟨p, o, none⟩) hq hl]; exact f o, hcode.onto ho hx, hap, hfew⟩
theorem CurAt.below {w w' : World} {p : Nat} {a : Option Addr} {len cap : Nat} (h : CurAt w p a len cap) (ho : Below w.heap.size w w') : CurAt w' p a len cap := by
  have hl := h.lt
  obtain ⟨c0, ⟨i, c1, hi⟩, ⟨g, c2⟩, f, hcode, hap, hfew⟩ := h
  exact ⟨by rw [ho.cell (p := ⟨p, 0, none⟩) hl]; exact c0, ⟨i, by rw [ho.cell (p := ⟨p, 1, none⟩) hl]; exact c1, hi⟩, ⟨g, by rw [ho.cell (p := ⟨p, 2, none⟩) hl]; exact c2⟩,
    fun o => by rw [ho.frozen (p := ⟨p, o, none⟩) hl]; exact f o, hcode.below ho, hap, hfew⟩
theorem CurAt.set2 {w : World} {p : Nat} {a : Option Addr} {len cap : Nat} (h : CurAt w p a len cap) (g' : Int) : CurAt (w.setCell ⟨p, 2, none⟩ (.int .i64 g')) p a len cap := by
  obtain ⟨c0, ⟨i, c1, hi⟩, ⟨g, c2⟩, f, hcode, hap, hfew⟩ := h
  exact ⟨by rw [World.cell?_setCell_other _ _ _ _ (by simp)]; exact c0, ⟨i, by rw [World.cell?_setCell_other _ _ _ _ (by simp)]; exact c1, hi⟩, ⟨g', World.cell?_setCell_same _ _ _ c2⟩,
    fun o => by rw [World.frozen?_setCell]; exact f o, hcode.onto ((Onto.refl p w).setCell (q := ⟨p, 2, none⟩) rfl _) hap, hap, hfew⟩
theorem CurAt.set1 {w : World} {p : Nat} {a : Option Addr} {len cap : Nat} (h : CurAt w p a len cap) (j : Nat) (hj : j ≤ len) : CurAt (w.setCell ⟨p, 1, none⟩ (.int .i64 (j : Int))) p a len cap := by
  obtain ⟨c0, ⟨i, c1, hi⟩, ⟨g, c2⟩, f, hcode, hap, hfew⟩ := h
  exact ⟨by rw [World.cell?_setCell_other _ _ _ _ (by simp)]; exact c0, ⟨j, World.cell?_setCell_same _ _ _ c1, hj⟩, ⟨g, by rw [World.cell?_setCell_other _ _ _ _ (by simp)]; exact c2⟩,
    fun o => by rw [World.frozen?_setCell]; exact f o, hcode.onto ((Onto.refl p w).setCell (q := ⟨p, 1, none⟩) rfl _) hap, hap, hfew⟩
theorem CurAt.drewN {w : World} {p : Nat} {a : Option Addr} {len cap : Nat} (h : CurAt w p a len cap) (n : Nat) : CurAt (w.drewN n) p a len cap := ⟨h.c0, h.c1, h.c2, h.f, h.code, h.apart, h.few⟩

/-- Since w0 the cursor's block alone has turned, and the cursor stands. -/
structure Drawn (p : Nat) (a : Option Addr) (len cap : Nat) (w0 w : World) : Prop where
  onto : Onto p w0 w
  cur : CurAt w p a len cap
theorem CurAt.drawn {w : World} {p : Nat} {a : Option Addr} {len cap : Nat} (h : CurAt w p a len cap) : Drawn p a len cap w w := ⟨Onto.refl _ _, h⟩
theorem Drawn.alloc {w0 w : World} {p : Nat} {a : Option Addr} {len cap : Nat} (h : Drawn p a len cap w0 w) (o : Obj) : Drawn p a len cap w0 (w.alloc o) :=
  ⟨h.onto.alloc o, h.cur.below ((Below.refl _ _).alloc (Nat.le_refl _) _)⟩
theorem Drawn.below {w0 w w' : World} {p : Nat} {a : Option Addr} {len cap : Nat} (h : Drawn p a len cap w0 w) (hb : Below w.heap.size w w') : Drawn p a len cap w0 w' :=
  ⟨h.onto.trans ⟨hb.os, hb.tape, hb.output, hb.size, fun k _ hk => hb.block k hk⟩, h.cur.below hb⟩
theorem Drawn.drewN {w0 w : World} {p : Nat} {a : Option Addr} {len cap : Nat} (h : Drawn p a len cap w0 w) (n : Nat) : Drawn p a len cap w0 (w.drewN n) := ⟨h.onto.drewN n, h.cur.drewN n⟩

/-- A number of an int64. -/
def InR (z : Int) : Prop := -9223372036854775808 ≤ z ∧ z ≤ 9223372036854775807
theorem inR_mk {z : Int} (h0 : -9223372036854775808 ≤ z) (h1 : z ≤ 9223372036854775807) : InR z := ⟨h0, h1⟩
/-- A cell of a block that was laid ahead of a draw. -/
theorem pick {p : Nat} {w w1 : World} {C : Array Value} {T : TypeId} (ho : Onto p (w.alloc (.cells C T)) w1) (hp : p < w.heap.size) (hC : ∀ v ∈ C.toList, ∃ z : Int, v = .int .i64 z ∧ InR z) (j : Nat) (hj : j < C.size) :
    ∃ z : Int, w1.cell? ⟨w.heap.size, j, none⟩ = some (.int .i64 z) ∧ InR z := by
  obtain ⟨z, hz, hr⟩ := hC C[j] (by simp)
  refine ⟨z, ?_, hr⟩
  rw [ho.cell (q := ⟨w.heap.size, j, none⟩) (by show w.heap.size ≠ p; omega) (by simp), World.cell?_alloc_new, Array.getElem?_eq_getElem hj, hz]

theorem byte_any {w0 : World} {p : Nat} {a : Option Addr} {len cap : Nat} (w : World) (h : Drawn p a len cap w0 w) :
    Calls Try.prog 56 #[.pointer (some ⟨p, 0, none⟩)] w fun e w' => ∃ x : Int, e = .returned (.int .i64 x) ∧ 0 ≤ x ∧ x ≤ 255 ∧ Onto p w w' ∧ Drawn p a len cap w0 w' := by
  have H : Hid (CurAt w p a len cap) := h.cur
  have HO : Hid (Onto p w0 w) := h.onto
  obtain ⟨c0, ⟨i, c1, hi⟩, ⟨g, c2⟩, f, hcode, hap, hfew⟩ := h.cur
  clear h
  have f1 := f 1
  have f2 := f 2
  by_cases hlt : i < len
  · rcases hcode with h0 | ⟨b, off, rfl, hb, hc⟩
    · omega
    · obtain ⟨z, hz, hz0, hz1⟩ := hc i hlt
      have hne : b ≠ p := hap (by omega) _ rfl
      go_enter Try.func56, Try.ntmps56
      go_wp2
      go_quiet (fail)
      go_wp2
      go_quiet (fail)
      go_wp2
      go_quiet (fail)
      go_wp2
      go_ret
      refine ⟨_, rfl, (and_mask _ 255 (by omega) (by omega)).1, (and_mask _ 255 (by omega) (by omega)).2, (((Onto.refl p w).setCell rfl _).drewN _).setCell rfl _, ((HO.out.setCell rfl _).drewN _).setCell rfl _, ?_⟩
      exact ((H.out.set2 _).drewN _).set1 (i + 1) (by omega)
  · have hge : ¬ (i : Int) < (len : Int) := by omega
    go_enter Try.func56, Try.ntmps56
    go_wp2
    go_quiet (fail)
    go_wp2
    go_quiet (fail)
    go_wp2
    go_ret
    refine ⟨_, rfl, (and_mask _ 255 (by omega) (by omega)).1, (and_mask _ 255 (by omega) (by omega)).2, (((Onto.refl p w).setCell rfl _).drewN _).drewN _, ((HO.out.setCell rfl _).drewN _).drewN _, ?_⟩
    exact ((H.out.set2 _).drewN _).drewN _

theorem below_no (p : Nat) (n : Int) (w : World) (hn : n ≤ 0) :
    Calls Try.prog 47 #[.pointer (some ⟨p, 0, none⟩), .int .i64 n] w fun e w' => e = .returned (.int .i64 0) ∧ w' = w := by
  go_enter Try.func47, Try.ntmps47
  go_wp2
  go_ret
  exact ⟨rfl, rfl⟩
theorem rem_nat {x n : Int} (hn : 0 < n) : x % n = ((x % n).toNat : Int) ∧ ((x % n).toNat : Int) < n := by
  have := Int.emod_nonneg x (by omega : n ≠ 0)
  have := Int.emod_lt_of_pos x hn
  omega
theorem below_any {w0 : World} {p : Nat} {a : Option Addr} {len cap : Nat} (n : Int) (w : World) (h : Drawn p a len cap w0 w) (hn : 0 < n) :
    Calls Try.prog 47 #[.pointer (some ⟨p, 0, none⟩), .int .i64 n] w fun e w' => ∃ r : Nat, e = .returned (.int .i64 (r : Int)) ∧ (r : Int) < n ∧ Onto p w w' ∧ Drawn p a len cap w0 w' := by
  have hn0 : ¬ n ≤ 0 := by omega
  by_cases hs : n ≤ 256
  · go_enter Try.func47, Try.ntmps47
    go_wp2_with (go_at_call 56; refine (byte_any _ h).mono ?_; rintro e w1 ⟨x, rfl, hx0, hx1, ho, hc⟩)
    go_ret
    exact ⟨(x % n).toNat, ret_int (rem_nat hn).1, (rem_nat hn).2, ho, hc⟩
  · have h1 : Hid (Drawn p a len cap w0 w) := h
    have h := h.cur.drawn
    go_enter Try.func47, Try.ntmps47
    go_wp2_with (go_at_call 56; refine (byte_any (w0 := w) _ (by assumption)).mono ?_; rintro e w1 ⟨x, rfl, hx0, hx1, _, hc⟩; clear h; have h := hc; clear hc)
    go_ret
    exact ⟨_, ret_int (rem_nat hn).1, (rem_nat hn).2, h.onto, h1.out.onto.trans h.onto, h.cur⟩

theorem once_any {w0 : World} {p : Nat} {a : Option Addr} {len cap : Nat} (n : Int) (w : World) (h : Drawn p a len cap w0 w) (hn : 0 < n) :
    Calls Try.prog 49 #[.pointer (some ⟨p, 0, none⟩), .int .i64 n] w fun e w' => ∃ r : Bool, e = .returned (.bool r) ∧ Onto p w w' ∧ Drawn p a len cap w0 w' := by
  go_enter Try.func49, Try.ntmps49
  go_wp2_with (go_at_call 47; refine (below_any _ _ h hn).mono ?_; rintro e w1 ⟨x, rfl, hx1, ho, hc⟩)
  go_ret
  exact ⟨_, rfl, ho, hc⟩

theorem odd_any {w0 : World} {p : Nat} {a : Option Addr} {len cap : Nat} (w : World) (h : Drawn p a len cap w0 w) :
    Calls Try.prog 58 #[.pointer (some ⟨p, 0, none⟩)] w fun e w' => ∃ x : Int, e = .returned (.int .i64 x) ∧ InR x ∧ Onto p w w' ∧ Drawn p a len cap w0 w' := by
  have hp := h.cur.lt
  go_enter Try.func58, Try.ntmps58
  go_wp2_with (go_at_call 47; refine (below_any _ _ (h.alloc _) (by omega)).mono ?_; rintro e w1 ⟨r, rfl, hr, ho, hc⟩; obtain ⟨z, hz, hzr⟩ := pick ho hp (by simp [InR]) r (by simp; omega))
  go_ret
  exact ⟨z, rfl, hzr, ((Onto.refl p w).alloc _).trans ho, hc⟩

theorem min_any (m n : Int) (w : World) :
    Calls Try.prog 59 #[.int .i64 m, .int .i64 n] w fun e w' => e = .returned (.int .i64 (min m n)) ∧ w' = w := by
  by_cases h : m < n
  · rw [Int.min_eq_left (by omega)]
    go_enter Try.func59, Try.ntmps59
    go_wp2
    go_ret
    exact ⟨rfl, rfl⟩
  · rw [Int.min_eq_right (by omega)]
    go_enter Try.func59, Try.ntmps59
    go_wp2
    go_ret
    exact ⟨rfl, rfl⟩

theorem num_any {w0 : World} {p : Nat} {a : Option Addr} {len cap : Nat} (most : Int) (w : World) (h : Drawn p a len cap w0 w) (h0 : 0 ≤ most) (h1 : most ≤ 4611686018427387904) :
    Calls Try.prog 50 #[.pointer (some ⟨p, 0, none⟩), .int .i64 most] w fun e w' => ∃ x : Int, e = .returned (.int .i64 x) ∧ InR x ∧ Onto p w w' ∧ Drawn p a len cap w0 w' := by
  have hp := h.cur.lt
  have h' := h.cur.drawn
  have H : Hid (Onto p w0 w) := h.onto
  clear h
  go_enter Try.func50, Try.ntmps50
  go_wp2_with (first
    | (go_at_call 49; refine (once_any (w0 := w) _ _ (by assumption) (by omega)).mono ?_; rintro e w1 ⟨r, rfl, _, hc⟩; cases r)
    | (go_at_call 58; refine (odd_any (w0 := w) _ (by assumption)).mono ?_; rintro e w1 ⟨x, rfl, hxr, _, hc⟩)
    | (go_at_call 59; refine (min_any _ _ _).mono ?_; rintro e w1 ⟨rfl, rfl⟩)
    | (go_at_call 47; refine (below_any (w0 := w) _ _ (by assumption) (by omega)).mono ?_; rintro e w1 ⟨r, rfl, hr, _, hc⟩)
    | (go_at_call 47; refine (below_any (w0 := w) _ _ (Drawn.alloc (by assumption) _) (by omega)).mono ?_; rintro e w1 ⟨r, rfl, hr, ho, hc⟩; obtain ⟨z, hz, hzr⟩ := pick ho (Drawn.cur (by assumption)).lt (by simp [InR]; (try unfold InR at *); omega) r (by simp; omega)))
  all_goals go_ret
  · exact ⟨_, rfl, by unfold InR; omega, hc.onto, H.out.trans hc.onto, hc.cur⟩
  · exact ⟨_, rfl, by unfold InR; omega, hc.onto, H.out.trans hc.onto, hc.cur⟩
  · exact ⟨_, rfl, hzr, hc.onto, H.out.trans hc.onto, hc.cur⟩

theorem new_any (a : Option Addr) (len cap : Nat) (w : World) (hc : CodeAt w a len) (hl : len ≤ 4096) :
    Calls Try.prog 29 #[.slice a len cap] w fun e w' => e = .returned (.pointer (some ⟨w.heap.size, 0, none⟩)) ∧ Below w.heap.size w w' ∧ CurAt w' w.heap.size a len cap := by
  go_enter Try.func29, Try.ntmps29
  go_wp2
  go_loop [3, 4] (fun h i => ∃ k : Nat, k ≤ len ∧ i = .int .i64 k ∧ ∃ g : Int, h = .int .i64 g ∧ 0 ≤ g ∧ g ≤ 1073741823) (fun _ i => len - (intOf i).toNat)
  case atStart => exact ⟨0, Nat.zero_le _, rfl, _, rfl, by omega, by omega⟩
  case round =>
    obtain ⟨k, hk, rfl, g, rfl, hg0, hg1⟩ := hrel
    by_cases hlt : k < len
    · rcases hc with h0 | ⟨b, off, rfl, hb, hcell⟩
      · omega
      · obtain ⟨z, hz, hz0, hz1⟩ := hcell k hlt
        go_wp2
        go_round
        case rel => exact ⟨k + 1, by omega, by go_num, _, rfl, (and_mask _ 1073741823 (by omega) (by omega)).1, (and_mask _ 1073741823 (by omega) (by omega)).2⟩
        case measure => simp [intOf]; omega
    · have HC : Hid (CodeAt w a len) := hc
      clear hc
      go_wp2
      go_ret
      exact ⟨rfl, (Below.refl _ _).alloc (Nat.le_refl _) _, by simp, ⟨0, by simp, by omega⟩, ⟨g, by simp⟩, fun o => by simp, HC.out.below ((Below.refl _ _).alloc (Nat.le_refl _) _), fun h0 x hx => by have := HC.out.lt h0 x hx; omega, hl⟩
end Go.Proofs.Ytggfjghcgacdnaa.Draw
namespace Go.Proofs.Ytggfjghcgacdnaa.Draw
open Go.ChangeShapes Go.WideShapes Go.RowKit Base
set_option linter.unusedVariables false
set_option maxRecDepth 20000

theorem from_any {w0 : World} {p : Nat} {a : Option Addr} {len cap : Nat} (lo hi : Int) (w : World) (h : Drawn p a len cap w0 w) (h0 : lo ≤ hi) (h1 : -1000000 ≤ lo) (h2 : hi ≤ 1000000000000) :
    Calls Try.prog 51 #[.pointer (some ⟨p, 0, none⟩), .int .i64 lo, .int .i64 hi] w fun e w' => ∃ x : Int, e = .returned (.int .i64 x) ∧ (lo ≤ x ∧ x ≤ hi) ∧ Onto p w w' ∧ Drawn p a len cap w0 w' := by
  go_enter Try.func51, Try.ntmps51
  go_wp2_with (go_at_call 47; refine (below_any _ _ h (by omega)).mono ?_; rintro e w1 ⟨r, rfl, hr, ho, hd⟩)
  go_ret
  exact ⟨_, rfl, by omega, ho, hd⟩
section
variable {w0 w w' : World} {p b : Nat} {a : Option Addr} {len cap : Nat}
theorem drawn_new (h : Drawn p a len cap w0 w) {q : Addr} (hp : p < w0.heap.size) (hx : 0 < len → ∀ x, a = some x → x.block < w0.heap.size) (hq : w0.heap.size ≤ q.block) (v : Value) : Drawn p a len cap w0 (w.setCell q v) :=
  ⟨h.onto.setNew hq v, h.cur.onto ((Onto.refl q.block w).setCell rfl v) (by omega) (fun h0 x e => by have := hx h0 x e; omega)⟩
/-- What is old when the drawing begins. -/
def OldC (p : Nat) (a : Option Addr) (len : Nat) (w0 : World) : Prop := p < w0.heap.size ∧ (0 < len → ∀ x, a = some x → x.block < w0.heap.size)
theorem drawn_other (h : Drawn p a len cap w0 w) {q : Nat} (ho : Onto q w w') (hq : w0.heap.size ≤ q) (hold : OldC p a len w0) : Drawn p a len cap w0 w' :=
  ⟨⟨ho.os.trans h.onto.os, ho.tape.trans h.onto.tape, ho.output.trans h.onto.output, Nat.le_trans h.onto.size ho.size, fun k hk hl => by
    have := h.onto.size
    rw [ho.block k (by omega) (by omega)]; exact h.onto.block k hk hl⟩,
    h.cur.onto ho (by have := hold.1; omega) (fun h0 x e => by have := hold.2 h0 x e; omega)⟩
end
end Go.Proofs.Ytggfjghcgacdnaa.Draw
