/-
  The laws' own helpers over pipes: a copy, whether two are alike, how great one is, marks that are set and found again.
-/
import Derived.Test.YtggfjghcgacdnaaPpF
import Derived.Test.YtggfjghcgacdnaaNtMk
namespace Go.Proofs.Ytggfjghcgacdnaa.Mem
open Go.ChangeShapes Go.WideShapes Go.RowKit Base Num Slc Slf Rw Tmr Reg Ex
set_option linter.unusedVariables false
set_option linter.unusedSimpArgs false
set_option maxRecDepth 20000

/-- The value v, one of the laws' own pipes, reads as p. -/
def PpL (w : World) (v : Value) (p : Pp) : Prop := ∃ u, v = .agg #[.int .i64 p.c, u] ∧ SlF fLN w u p.l
theorem PpL.below {w w' : World} {v : Value} {p : Pp} (h : PpL w v p) (hb : Below w.heap.size w w') : PpL w' v p := by
  obtain ⟨u, e, h1⟩ := h
  exact ⟨u, e, h1.below hb⟩
theorem szPipe_any (v : Value) (p : Pp) (left : Int) (w : World) (h : PpL w v p) (hl : 0 ≤ left ∧ left ≤ 1048576) :
    Calls Try.prog 23 #[v, .int .i64 left] w fun e w' => e = .returned (.int .i64 (if left < p.l.length then -1 else left - p.l.length)) ∧ Below w.heap.size w w' := by
  obtain ⟨u, hvv, hu⟩ := h
  by_cases hh : left < (p.l.length : Int)
  · rw [if_pos hh]
    go_enter Try.func23, Try.ntmps23
    go_wp2_with (first
      | (refine box_lpp rfl rfl hvv ?_; intro w1 r1 b1; have c1 : w1.cell? ⟨w.heap.size, 1, none⟩ = some u := r1.cell 1)
      | (go_at_call 41; refine (szNoteS_any u p.l _ _ (hu.below b1) hl).mono ?_; rintro e w2 ⟨rfl, rfl⟩; rw [if_pos hh]))
    go_ret
    exact ⟨rfl, b1⟩
  · rw [if_neg hh]
    have hn : ¬ left - (p.l.length : Int) < 0 := by omega
    go_enter Try.func23, Try.ntmps23
    go_wp2_with (first
      | (refine box_lpp rfl rfl hvv ?_; intro w1 r1 b1; have c1 : w1.cell? ⟨w.heap.size, 1, none⟩ = some u := r1.cell 1)
      | (go_at_call 41; refine (szNoteS_any u p.l _ _ (hu.below b1) hl).mono ?_; rintro e w2 ⟨rfl, rfl⟩; rw [if_neg (by omega)]))
    go_ret
    exact ⟨rfl, b1⟩
theorem toPipe_any (v : Value) (p : Pp) (w : World) (h : PpL w v p) (hb : p.l.length ≤ 4000000) :
    Calls Try.prog 24 #[v] w fun e w' => ∃ u', e = .returned (.agg #[.int .i64 p.c, u']) ∧ OwnF fN w.heap.size w' u' p.l ∧ Below w.heap.size w w' := by
  obtain ⟨u, hvv, hu⟩ := h
  have hone := hu.one
  go_enter Try.func24, Try.ntmps24
  go_wp2_with (first
    | (refine box_lpp rfl rfl hvv ?_; intro w1 r1 b1)
    | (refine al_pp rfl rfl ?_; intro w2 r2 b2; have B2 := below_more b1 b2; have q2 := r1.below b2; have l2 := r2.lt)
    | (refine al_pp rfl rfl ?_; intro w3 r3 b3; have B3 := below_more B2 b3; have q3 := q2.below b3; have p3 := r2.below b3; have l3 := r3.lt; have s1 := b1.size; have c30 : w3.cell? ⟨w.heap.size, 0, none⟩ = some (.int .i64 p.c) := q3.cell 0)
    | (refine st_pp0 rfl rfl rfl rfl r3 ?_; rintro w4 r4 o4 -; have q4 := q3.onto o4 (by omega); have p4 := p3.onto o4 (by omega); have B4 := below_onto B3 o4 (by omega); have c41 : w4.cell? ⟨w.heap.size, 1, none⟩ = some u := q4.cell 1)
    | (go_at_call 42; refine (toNoteS_any u p.l _ (hu.below B4) hb).mono ?_; rintro e w5 ⟨u', rfl, ho5, b5⟩; have r5 := r4.below b5; have p5 := p4.below b5; have B5 := below_more B4 b5; have o5 := ho5.one okN)
    | (refine st_pp1 rfl rfl rfl rfl r5 o5 ?_; rintro w6 r6 o6 -; have p6 := p5.onto o6 (by omega); have B6 := below_onto B5 o6 (by omega); have ho6 := ho5.onto o6 (fun e => by have := (ho5.lt _ e).1; have := r4.lt; omega))
    | (refine ld_pp rfl rfl rfl r6 ?_)
    | (refine st_pp rfl rfl rfl rfl p6 rfl o5 ?_; rintro w7 r7 o7 -; have B7 := below_onto B6 o7 (by omega); have ho7 := ho6.onto o7 (fun e => by have := (ho5.lt _ e).1; have := r4.lt; omega)))
  exact ret_row rfl rfl r7 Try.underlying26 rfl info_pp rfl ⟨u', rfl, ho7.mono (by have := B4.size; omega), B7⟩
theorem eqPipe_same (v u : Value) (p : Pp) (w : World) (h1 : PpSl w v p) (h2 : PpSl w u p) :
    Calls Try.prog 25 #[v, u] w fun e w' => e = .returned (.bool true) ∧ Below w.heap.size w w' := by
  obtain ⟨x, hv, hx⟩ := h1
  obtain ⟨y, hu, hy⟩ := h2
  have hne : (p.c != p.c) = false := by simp
  go_enter Try.func25, Try.ntmps25
  go_wp2_with (first
    | (refine box_pp rfl rfl hv ?_; intro w1 r1 b1)
    | (refine box_pp rfl rfl hu ?_; intro w2 r2 b2; have q2 := r1.below b2; have B2 := below_more b1 b2; have c0 : w2.cell? ⟨w.heap.size, 0, none⟩ = some (.int .i64 p.c) := q2.cell 0; have c1 : w2.cell? ⟨w.heap.size, 1, none⟩ = some x := q2.cell 1; have d0 : w2.cell? ⟨w1.heap.size, 0, none⟩ = some (.int .i64 p.c) := r2.cell 0; have d1 : w2.cell? ⟨w1.heap.size, 1, none⟩ = some y := r2.cell 1)
    | (go_at_call 43; refine (eqNoteS_same x y p.l _ (hx.below B2) (hy.below B2)).mono ?_; rintro e w3 ⟨rfl, b3⟩))
  go_ret
  exact ⟨rfl, below_more B2 b3⟩
theorem markPipe_any (B : TypeId) (c : Int) (u : Value) (l : List Nt) (w : World) (base k : Nat) (h : OwnA B fN base w u l) (hb : l.length ≤ 4000000) (hk : k ≤ 1000000000) (hbw : base ≤ w.heap.size) :
    Calls Try.prog 26 #[.agg #[.int .i64 c, u], .int .i64 (k : Int)] w fun e w' => e = .returned (.int .i64 ((k + 5 * l.length : Nat) : Int)) ∧ OwnA B fN base w' u (marksN k l.length) ∧ w.grownBy w' u.ownBlock := by
  obtain ⟨vv, hvv⟩ : ∃ vv, vv = Value.agg #[.int .i64 c, u] := ⟨_, rfl⟩
  rw [← hvv]
  have hone := h.one okN
  go_enter Try.func26, Try.ntmps26
  go_wp2_with (first
    | (refine box_pp rfl rfl hvv ?_; intro w1 r1 b1; have c1 : w1.cell? ⟨w.heap.size, 1, none⟩ = some u := r1.cell 1)
    | (go_at_call 44; refine (markNoteS_any B u l _ base k (h.below b1) hb hk).mono ?_; rintro e w2 ⟨rfl, ho2, g2⟩))
  go_ret
  refine ⟨rfl, ho2, ⟨g2.os.trans b1.os, g2.tape.trans b1.tape, g2.output.trans b1.output, Nat.le_trans b1.size g2.size, fun k hk hne => ?_⟩⟩
  rw [g2.block k (Nat.lt_of_lt_of_le hk b1.size) hne]
  exact b1.block k hk
theorem heldPipe_any (c : Int) (u : Value) (n : Nat) (w : World) (k : Nat) (h : SlF fN w u (marksN k n)) (hb : n ≤ 4000000) (hk : k ≤ 1000000000) :
    Calls Try.prog 27 #[.agg #[.int .i64 c, u], .int .i64 (k : Int)] w fun e w' => e = .returned (.int .i64 ((k + 5 * n : Nat) : Int)) ∧ Below w.heap.size w w' := by
  obtain ⟨vv, hvv⟩ : ∃ vv, vv = Value.agg #[.int .i64 c, u] := ⟨_, rfl⟩
  rw [← hvv]
  have hone := h.one
  have hp : ¬ ((k + 5 * n : Nat) : Int) < 0 := by omega
  obtain ⟨z, hz⟩ : ∃ z : Nat, z = k + 5 * n := ⟨_, rfl⟩
  rw [← hz] at hp ⊢
  have HZ : Hid (z = k + 5 * n) := hz
  clear hz
  go_enter Try.func27, Try.ntmps27
  go_wp2_with (first
    | (refine box_pp rfl rfl hvv ?_; intro w1 r1 b1; have c1 : w1.cell? ⟨w.heap.size, 1, none⟩ = some u := r1.cell 1)
    | (go_at_call 45; refine (heldNoteS_any u n _ k (h.below b1) hb hk).mono ?_; rw [← HZ.out]; rintro e w2 ⟨rfl, rfl⟩))
  go_ret
  exact ⟨rfl, b1⟩
end Go.Proofs.Ytggfjghcgacdnaa.Mem
