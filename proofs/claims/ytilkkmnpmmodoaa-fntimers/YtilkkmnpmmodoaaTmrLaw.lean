/-
  A timer and a number of cycles are drawn; and the law of the timer.
-/
import Derived.Test.YtilkkmnpmmodoaaTmrDraw
import Derived.Test.YtilkkmnpmmodoaaDice
namespace Go.Proofs.Ytilkkmnpmmodoaa.Tmr
open Go.ChangeShapes Go.WideShapes Go.RowKit Base Num Slc Rw Draw Reg
set_option linter.unusedVariables false

/-- Within the last statement: the cursor, the timer that was drawn, the result's block. -/
structure Gd (w : World) (p : Nat) (a : Option Addr) (len cap : Nat) (b5 b2 : Nat) (t : Tm) (W : World) : Prop where
  cur : CurAt W p a len cap
  r5 : Row W b5 #[.int .i64 t.c, .int .i64 t.v, .int .i64 t.s, .int .i64 t.m] 25
  r2 : ∃ u : Tm, Row W b2 #[.int .i64 u.c, .int .i64 u.v, .int .i64 u.s, .int .i64 u.m] 25
  bel : Below w.heap.size w W
structure Gp (w : World) (p : Nat) (a : Option Addr) (len : Nat) (b5 b2 : Nat) : Prop where
  np : w.heap.size ≤ p
  n2 : w.heap.size ≤ b2
  p2 : p ≠ b2
  p5 : p ≠ b5
  d52 : b5 ≠ b2
  old : 0 < len → ∀ x, a = some x → x.block < w.heap.size
theorem Gd.onto {w W W' : World} {p b5 b2 : Nat} {a : Option Addr} {len cap : Nat} {t : Tm} (h : Gd w p a len cap b5 b2 t W) (hp : Gp w p a len b5 b2) (ho : Onto p W W') (hc : CurAt W' p a len cap) : Gd w p a len cap b5 b2 t W' :=
  ⟨hc, h.r5.onto ho (Ne.symm hp.p5), h.r2.imp fun _ r => r.onto ho (Ne.symm hp.p2), below_onto h.bel ho hp.np⟩
theorem Gd.drew {w W : World} {p b5 b2 : Nat} {a : Option Addr} {len cap : Nat} {t : Tm} (h : Gd w p a len cap b5 b2 t W) : Gd w p a len cap b5 b2 t W.drew :=
  ⟨h.cur.drewN 1, h.r5.drewN 1, h.r2.imp fun _ r => r.drewN 1, h.bel.drew⟩
theorem Gd.store {w W : World} {p b5 b2 : Nat} {a : Option Addr} {len cap : Nat} {t : Tm} (h : Gd w p a len cap b5 b2 t W) (hp : Gp w p a len b5 b2) (u : Tm) : Gd w p a len cap b5 b2 t (W.setRow b2 #[.int .i64 u.c, .int .i64 u.v, .int .i64 u.s, .int .i64 u.m]) := by
  obtain ⟨q, hr⟩ := h.r2
  have ho : Onto b2 W (W.setRow b2 #[.int .i64 u.c, .int .i64 u.v, .int .i64 u.s, .int .i64 u.m]) := ⟨rfl, rfl, rfl, by simp, fun k hk _ => setRow_other W _ k _ hk⟩
  exact ⟨h.cur.onto ho hp.p2 (fun h0 x e => by have := hp.old h0 x e; have := hp.n2; omega), h.r5.onto ho hp.d52, ⟨u, Row.of (setRow_heap W _ _ _ _ _ hr.row)⟩, below_onto h.bel ho hp.n2⟩
set_option maxHeartbeats 4000000 in
theorem drawTimerAfter_any (a : Option Addr) (len cap : Nat) (w : World) (hc : CodeAt w a len) (hl : len ≤ 4096) :
    Calls Try.prog 8 #[.slice a len cap] w fun e w' => ∃ (t : Tm) (n : Int), e = .returned (.tuple #[t.val, .int .i64 n]) ∧ Below w.heap.size w w' := by
  go_enter Try.func8, Try.ntmps8
  go_wp2_with fail
  go_at_call 19
  refine (new_any a len cap _ (hc.below ((Below.refl _ _).alloc (Nat.le_refl _) _)) hl).mono ?_
  have hB0 : Below w.heap.size w (w.alloc (.cells #[.int .i64 0, .int .i64 0, .int .i64 0, .int .i64 0] 25)) := (Below.refl _ _).alloc (Nat.le_refl _) _
  have r2 := Row.new w #[.int .i64 0, .int .i64 0, .int .i64 0, .int .i64 0] 25
  have hsz : (w.alloc (.cells #[.int .i64 0, .int .i64 0, .int .i64 0, .int .i64 0] 25)).heap.size = w.heap.size + 1 := by simp
  rw [hsz]
  rintro e w1 ⟨rfl, hb1, hcur⟩
  rw [← hsz] at hb1
  replace r2 := r2.below hb1
  have hB1 := hB0.trans (hb1.mono hB0.size)
  have hlc := hcur.lt
  have hold : OldC (w.heap.size + 1) a len w1 := ⟨hlc, hcur.code.lt⟩
  clear hb1 hB0 hsz
  go_wp2_with fail
  go_at_call 20
  refine (l4DrawAny_any _ hcur.drawn).mono ?_
  rintro e w2 ⟨t, rfl, ho2, hd2⟩
  replace r2 := r2.onto ho2 (by omega)
  have hB2 := hB1.trans (ho2.below (B := w.heap.size) (by omega) hB1.size)
  have ht : t.val = .agg #[.int .i64 t.c, .int .i64 t.v, .int .i64 t.s, .int .i64 t.m] := rfl
  rw [ht]
  replace hd2 := hd2.cur.drawn
  have hlt2 := r2.lt
  have hlt12 := ho2.size
  clear ho2 hcur hB1
  go_wp2_with fail
  go_at_call 21
  refine (once_any _ _ (hd2.alloc _) (by omega)).mono ?_
  rintro e w3 ⟨q, rfl, ho3, hd3⟩
  have r5 := (Row.new w2 #[.int .i64 t.c, .int .i64 t.v, .int .i64 t.s, .int .i64 t.m] 25).onto ho3 (by have := hd2.cur.lt; omega)
  replace r2 := (r2.alloc (.cells #[.int .i64 t.c, .int .i64 t.v, .int .i64 t.s, .int .i64 t.m] 25)).onto ho3 (by omega)
  have hB3 := (hB2.alloc hB2.size (.cells #[.int .i64 t.c, .int .i64 t.v, .int .i64 t.s, .int .i64 t.m] 25)).trans (ho3.below (B := w.heap.size) (by omega) (by have := hB2.size; simp; omega))
  replace hd3 := hd3.cur.drawn
  clear ho3 hB2 hd2
  have hgp : Gp w (w.heap.size + 1) a len w2.heap.size w.heap.size := ⟨by omega, Nat.le_refl _, by omega, by omega, by omega, hc.lt⟩
  have hG : Gd w (w.heap.size + 1) a len cap w2.heap.size w.heap.size t w3 := ⟨hd3.cur, r5, ⟨⟨0, 0, 0, 0⟩, r2⟩, hB3⟩
  clear r5 r2 hB3 hd3
  cases q
  · go_wp2
    refine region_by (by kernel_rfl) (by kernel_rfl) (fun W => Gd w (w.heap.size + 1) a len cap w2.heap.size w.heap.size t W)
      (kinds [KIs (.agg #[.int .i64 t.c, .int .i64 t.v, .int .i64 t.s, .int .i64 t.m]), KIs (.pointer (some ⟨w.heap.size + 1, 0, none⟩)), KInt, KAny, KInt])
      (Rel fun _ => True) (by kernel_rfl) (kinds_mono ?mono) hG.drew ?step ?done
    case mono =>
      intro K hK
      simp only [List.mem_cons, List.not_mem_nil, or_false] at hK
      rcases hK with rfl | rfl | rfl | rfl | rfl
      all_goals first | exact bears_is _ _ | exact bears_int _ | exact bears_any _
    case step =>
      intro L i o A W hi hI hL hd
      have hi5 : i < 5 := by
        by_cases hl : i < 5
        · exact hl
        · simp [hl] at hi
      rcases i with _ | i
      · obtain rfl := (Option.some.inj hi).symm
        have e : A.eval (.tmp 5) = .pointer (some ⟨w2.heap.size, 0, none⟩) := hI.old 5 (by kernel_rfl)
        exact at_op rfl rfl (wp_load_row _ _ rfl _ e _ _ _ _ hI.g.r5.row und_tm rfl info_tm ⟨_, rfl, rfl, hI.g, Rel.refl _ _⟩)
      rcases i with _ | i
      · obtain rfl := (Option.some.inj hi).symm
        exact at_op rfl rfl (move_op rfl ⟨_, rfl, hI.old 4 (by kernel_rfl), hI.g, Rel.refl _ _⟩)
      rcases i with _ | i
      · obtain rfl := (Option.some.inj hi).symm
        have e : A.eval (.tmp 16) = .pointer (some ⟨w.heap.size + 1, 0, none⟩) := hI.get hd 1 16 rfl (by kernel_rfl)
        refine at_op rfl rfl (call_op rfl Try.func23 (by kernel_rfl) (by kernel_rfl) ?_)
        simp only [List.map_cons, List.map_nil, e]
        refine (below_any 600 W hI.g.cur.drawn (by omega)).mono ?_
        rintro e w4 ⟨x, rfl, hx, ho4, hd4⟩
        exact ⟨_, rfl, _, rfl, ⟨_, rfl⟩, hI.g.onto hgp ho4 hd4.cur, Rel.onto ho4 trivial⟩
      rcases i with _ | i
      · obtain rfl := (Option.some.inj hi).symm
        have e1 : A.eval (.tmp 15) = .agg #[.int .i64 t.c, .int .i64 t.v, .int .i64 t.s, .int .i64 t.m] := hI.get hd 0 15 rfl (by kernel_rfl)
        have e2 : A.eval (.tmp 2) = .pointer (some ⟨w.heap.size, 0, none⟩) := hI.old 2 (by kernel_rfl)
        obtain ⟨u, hr⟩ := hI.g.r2
        exact at_op rfl rfl (wp_store_row _ _ _ rfl _ _ e2 e1 _ _ hr.row info_tm rfl (by simp [Value.oneCell']) ⟨_, rfl, trivial, hI.g.store hgp t, by simp, fun k hk => absurd trivial hk⟩)
      rcases i with _ | i
      · obtain rfl := (Option.some.inj hi).symm
        obtain ⟨x, e⟩ : KInt (A.eval (.tmp 17)) W := hI.get hd 2 17 rfl (by kernel_rfl)
        exact at_op rfl rfl (assign_op rfl ⟨_, rfl, ⟨x, e⟩, hI.g, Rel.refl _ _⟩)
      omega
    case done =>
      intro A W hI
      have e2 : A.tmps.getD 2 undef = .pointer (some ⟨w.heap.size, 0, none⟩) := hI.old 2 (by kernel_rfl)
      obtain ⟨x, e3⟩ : KInt (A.tmps.getD 3 undef) W := hI.slot 4 3 rfl rfl
      have hA := frame_lit A 18 hI.size
      have hg := hI.g
      have hde : A.defers = [] := hI.defers
      rw [hde, show List.range 18 = [0, 1, 2, 3, 4, 5, 6, 7, 8, 9, 10, 11, 12, 13, 14, 15, 16, 17] from rfl] at hA
      simp only [List.map_cons, List.map_nil, e2, e3] at hA
      rw [hA]
      clear hA e2 e3 hI hde
      obtain ⟨u, hr⟩ := hg.r2
      go_wp2
      refine ret_row_tmp rfl rfl hr und_tm rfl info_tm rfl rfl ?_
      exact ⟨u, x, rfl, hg.bel⟩
  · go_wp2
    refine region_by (by kernel_rfl) (by kernel_rfl) (fun W => Gd w (w.heap.size + 1) a len cap w2.heap.size w.heap.size t W)
      (kinds [KIs (.agg #[.int .i64 t.c, .int .i64 t.v, .int .i64 t.s, .int .i64 t.m]), KIs (.pointer (some ⟨w.heap.size + 1, 0, none⟩)), KInt, KAny, KInt])
      (Rel fun _ => True) (by kernel_rfl) (kinds_mono ?mono) hG.drew ?step ?done
    case mono =>
      intro K hK
      simp only [List.mem_cons, List.not_mem_nil, or_false] at hK
      rcases hK with rfl | rfl | rfl | rfl | rfl
      all_goals first | exact bears_is _ _ | exact bears_int _ | exact bears_any _
    case step =>
      intro L i o A W hi hI hL hd
      have hi5 : i < 5 := by
        by_cases hl : i < 5
        · exact hl
        · simp [hl] at hi
      rcases i with _ | i
      · obtain rfl := (Option.some.inj hi).symm
        have e : A.eval (.tmp 5) = .pointer (some ⟨w2.heap.size, 0, none⟩) := hI.old 5 (by kernel_rfl)
        exact at_op rfl rfl (wp_load_row _ _ rfl _ e _ _ _ _ hI.g.r5.row und_tm rfl info_tm ⟨_, rfl, rfl, hI.g, Rel.refl _ _⟩)
      rcases i with _ | i
      · obtain rfl := (Option.some.inj hi).symm
        exact at_op rfl rfl (move_op rfl ⟨_, rfl, hI.old 4 (by kernel_rfl), hI.g, Rel.refl _ _⟩)
      rcases i with _ | i
      · obtain rfl := (Option.some.inj hi).symm
        have e : A.eval (.tmp 13) = .pointer (some ⟨w.heap.size + 1, 0, none⟩) := hI.get hd 1 13 rfl (by kernel_rfl)
        refine at_op rfl rfl (call_op rfl Try.func22 (by kernel_rfl) (by kernel_rfl) ?_)
        simp only [List.map_cons, List.map_nil, e]
        refine (num_any 100000 W hI.g.cur.drawn (by omega) (by omega)).mono ?_
        rintro e w4 ⟨x, rfl, hx, ho4, hd4⟩
        exact ⟨_, rfl, _, rfl, ⟨_, rfl⟩, hI.g.onto hgp ho4 hd4.cur, Rel.onto ho4 trivial⟩
      rcases i with _ | i
      · obtain rfl := (Option.some.inj hi).symm
        have e1 : A.eval (.tmp 12) = .agg #[.int .i64 t.c, .int .i64 t.v, .int .i64 t.s, .int .i64 t.m] := hI.get hd 0 12 rfl (by kernel_rfl)
        have e2 : A.eval (.tmp 2) = .pointer (some ⟨w.heap.size, 0, none⟩) := hI.old 2 (by kernel_rfl)
        obtain ⟨u, hr⟩ := hI.g.r2
        exact at_op rfl rfl (wp_store_row _ _ _ rfl _ _ e2 e1 _ _ hr.row info_tm rfl (by simp [Value.oneCell']) ⟨_, rfl, trivial, hI.g.store hgp t, by simp, fun k hk => absurd trivial hk⟩)
      rcases i with _ | i
      · obtain rfl := (Option.some.inj hi).symm
        obtain ⟨x, e⟩ : KInt (A.eval (.tmp 14)) W := hI.get hd 2 14 rfl (by kernel_rfl)
        exact at_op rfl rfl (assign_op rfl ⟨_, rfl, ⟨x, e⟩, hI.g, Rel.refl _ _⟩)
      omega
    case done =>
      intro A W hI
      have e2 : A.tmps.getD 2 undef = .pointer (some ⟨w.heap.size, 0, none⟩) := hI.old 2 (by kernel_rfl)
      obtain ⟨x, e3⟩ : KInt (A.tmps.getD 3 undef) W := hI.slot 4 3 rfl rfl
      have hA := frame_lit A 18 hI.size
      have hg := hI.g
      have hde : A.defers = [] := hI.defers
      rw [hde, show List.range 18 = [0, 1, 2, 3, 4, 5, 6, 7, 8, 9, 10, 11, 12, 13, 14, 15, 16, 17] from rfl] at hA
      simp only [List.map_cons, List.map_nil, e2, e3] at hA
      rw [hA]
      clear hA e2 e3 hI hde
      obtain ⟨u, hr⟩ := hg.r2
      go_wp2
      refine ret_row_tmp rfl rfl hr und_tm rfl info_tm rfl rfl ?_
      exact ⟨u, x, rfl, hg.bel⟩
end Go.Proofs.Ytilkkmnpmmodoaa.Tmr
