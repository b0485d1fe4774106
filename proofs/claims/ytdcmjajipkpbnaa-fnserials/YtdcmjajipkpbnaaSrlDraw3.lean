/-
  Ports and what is drawn beside them.
-/
import Derived.Test.YtdcmjajipkpbnaaSrlDraw2
namespace Go.Proofs.Ytdcmjajipkpbnaa.Srl
open Go.ChangeShapes Go.WideShapes Go.RowKit Base Num Slc Rw Reg Tmr Draw
set_option linter.unusedVariables false

/-- Within the last statement: the cursor, the port that was drawn, the result's block. -/
structure Gr (w : World) (p : Nat) (a : Option Addr) (len cap : Nat) (b5 b2 : Nat) (s : Sr) (W : World) : Prop where
  cur : CurAt W p a len cap
  r5 : Row W b5 #[.int .i64 s.d, .bool s.b, .bool s.l, .int .i64 s.n, .int .i64 s.x, .bool s.t] 29
  r2 : ∃ u : Sr, Row W b2 #[.int .i64 u.d, .bool u.b, .bool u.l, .int .i64 u.n, .int .i64 u.x, .bool u.t] 29
  bel : Below w.heap.size w W
structure Gq (w : World) (p : Nat) (a : Option Addr) (len : Nat) (b5 b2 : Nat) : Prop where
  np : w.heap.size ≤ p
  n2 : w.heap.size ≤ b2
  p2 : p ≠ b2
  p5 : p ≠ b5
  d52 : b5 ≠ b2
  old : 0 < len → ∀ x, a = some x → x.block < w.heap.size
section
variable {w W W' : World} {p b5 b2 : Nat} {a : Option Addr} {len cap : Nat} {s : Sr}
theorem Gr.onto (h : Gr w p a len cap b5 b2 s W) (hp : Gq w p a len b5 b2) (ho : Onto p W W') (hc : CurAt W' p a len cap) : Gr w p a len cap b5 b2 s W' :=
  ⟨hc, h.r5.onto ho (Ne.symm hp.p5), h.r2.imp fun _ r => r.onto ho (Ne.symm hp.p2), below_onto h.bel ho hp.np⟩
theorem Gr.drew (h : Gr w p a len cap b5 b2 s W) : Gr w p a len cap b5 b2 s W.drew := ⟨h.cur.drewN 1, h.r5.drewN 1, h.r2.imp fun _ r => r.drewN 1, h.bel.drew⟩
theorem Gr.store (h : Gr w p a len cap b5 b2 s W) (hp : Gq w p a len b5 b2) (u : Sr) : Gr w p a len cap b5 b2 s (W.setRow b2 #[.int .i64 u.d, .bool u.b, .bool u.l, .int .i64 u.n, .int .i64 u.x, .bool u.t]) := by
  obtain ⟨q, hr⟩ := h.r2
  have ho : Onto b2 W (W.setRow b2 #[.int .i64 u.d, .bool u.b, .bool u.l, .int .i64 u.n, .int .i64 u.x, .bool u.t]) := row_set _
  exact ⟨h.cur.onto ho hp.p2 (fun h0 x e => by have := hp.old h0 x e; have := hp.n2; omega), h.r5.onto ho hp.d52, ⟨u, Row.of (setRow_heap W _ _ _ _ _ hr.row)⟩, below_onto h.bel ho hp.n2⟩
end
set_option maxHeartbeats 4000000 in
theorem drawSerialStart_any (a : Option Addr) (len cap : Nat) (w : World) (hc : CodeAt w a len) (hl : len ≤ 4096) :
    Calls Try.prog 18 #[.slice a len cap] w fun e w' => ∃ (s : Sr) (q : Bool) (n : Int), e = .returned (.tuple #[s.val, .bool q, .int .i64 n]) ∧ Below w.heap.size w w' := by
  go_enter Try.func18, Try.ntmps18
  go_wp2_with fail
  go_at_call 40
  refine (new_any a len cap _ (hc.below ((Below.refl _ _).alloc (Nat.le_refl _) _)) hl).mono ?_
  have hB0 : Below w.heap.size w (w.alloc (.cells #[.int .i64 0, .bool false, .bool false, .int .i64 0, .int .i64 0, .bool false] 29)) := (Below.refl _ _).alloc (Nat.le_refl _) _
  have r2 := Row.new w #[.int .i64 0, .bool false, .bool false, .int .i64 0, .int .i64 0, .bool false] 29
  have hsz : (w.alloc (.cells #[.int .i64 0, .bool false, .bool false, .int .i64 0, .int .i64 0, .bool false] 29)).heap.size = w.heap.size + 1 := by simp
  rw [hsz]
  rintro e w1 ⟨rfl, hb1, hcur⟩
  rw [← hsz] at hb1
  replace r2 := r2.below hb1
  have hB1 := hB0.trans (hb1.mono hB0.size)
  have hlc := hcur.lt
  clear hb1 hB0 hsz
  go_wp2_with fail
  go_at_call 41
  refine (l5DrawAny_any _ hcur.drawn).mono ?_
  rintro e w2 ⟨s, rfl, ho2, hd2⟩
  replace r2 := r2.onto ho2 (by omega)
  have hB2 := below_onto hB1 ho2 (by omega)
  rw [Sr.eta]
  have hlt2 := r2.lt
  have hlt12 := ho2.size
  have hcur2 := hd2.cur
  clear ho2 hcur hB1 hd2
  have hgp : Gq w (w.heap.size + 1) a len w2.heap.size w.heap.size := ⟨by omega, Nat.le_refl _, by omega, by omega, by omega, hc.lt⟩
  have hG : Gr w (w.heap.size + 1) a len cap w2.heap.size w.heap.size s (w2.alloc (.cells #[.int .i64 s.d, .bool s.b, .bool s.l, .int .i64 s.n, .int .i64 s.x, .bool s.t] 29)) := ⟨hcur2.below ((Below.refl _ _).alloc (Nat.le_refl _) _), Row.new _ _ _, ⟨Sr.nul, r2.alloc _⟩, hB2.alloc hB2.size _⟩
  clear r2 hB2 hcur2
  go_wp2_with fail
  go_at_call 42
  refine (once_any _ _ hG.cur.drawn (by omega)).mono ?_
  rintro e w3 ⟨q, rfl, ho, hd⟩
  replace hG := hG.onto hgp ho hd.cur
  clear ho hd
  go_wp2_with fail
  go_at_call 42
  refine (once_any _ _ hG.cur.drawn (by omega)).mono ?_
  rintro e w4 ⟨z, rfl, ho, hd⟩
  replace hG := hG.onto hgp ho hd.cur
  clear ho hd
  cases z
  · go_wp2
    refine region_by (by kernel_rfl) (by kernel_rfl) (fun W => Gr w (w.heap.size + 1) a len cap w2.heap.size w.heap.size s W)
      (kinds [KIs (.agg #[.int .i64 s.d, .bool s.b, .bool s.l, .int .i64 s.n, .int .i64 s.x, .bool s.t]), KIs (.bool q), KIs (.pointer (some ⟨w.heap.size + 1, 0, none⟩)), KInt, KAny, KIs (.bool q), KInt]) (Rel fun _ => True) (by kernel_rfl) (kinds_mono ?mono) hG.drew ?step ?done
    case mono =>
      intro K hK
      simp only [List.mem_cons, List.not_mem_nil, or_false] at hK
      rcases hK with rfl | rfl | rfl | rfl | rfl | rfl | rfl
      all_goals first | exact bears_is _ _ | exact bears_int _ | exact bears_any _
    case step =>
      intro L ix o A W hi hI hL hd
      have hin : ix < 7 := by
        by_cases hl : ix < 7
        · exact hl
        · simp [hl] at hi
      rcases ix with _ | ix
      · obtain rfl := (Option.some.inj hi).symm
        have e : A.eval (.tmp 6) = .pointer (some ⟨w2.heap.size, 0, none⟩) := hI.old 6 (by kernel_rfl)
        exact at_op rfl rfl (wp_load_row _ _ rfl _ e _ _ _ _ hI.g.r5.row und_sr rfl info_sr ⟨_, rfl, rfl, hI.g, Rel.refl _ _⟩)
      rcases ix with _ | ix
      · obtain rfl := (Option.some.inj hi).symm
        exact at_op rfl rfl (move_op rfl ⟨_, rfl, hI.old 7 (by kernel_rfl), hI.g, Rel.refl _ _⟩)
      rcases ix with _ | ix
      · obtain rfl := (Option.some.inj hi).symm
        exact at_op rfl rfl (move_op rfl ⟨_, rfl, hI.old 5 (by kernel_rfl), hI.g, Rel.refl _ _⟩)
      rcases ix with _ | ix
      · obtain rfl := (Option.some.inj hi).symm
        have e : A.eval (.tmp 22) = .pointer (some ⟨w.heap.size + 1, 0, none⟩) := hI.get hd 2 22 rfl (by kernel_rfl)
        refine at_op rfl rfl (call_op rfl Try.func44 (by kernel_rfl) (by kernel_rfl) ?_)
        simp only [List.map_cons, List.map_nil, e]
        refine (below_any 300 W hI.g.cur.drawn (by omega)).mono ?_
        rintro e w4 ⟨x, rfl, hx, ho4, hd4⟩
        exact ⟨_, rfl, _, rfl, ⟨_, rfl⟩, hI.g.onto hgp ho4 hd4.cur, Rel.onto ho4 trivial⟩
      rcases ix with _ | ix
      · obtain rfl := (Option.some.inj hi).symm
        have e1 : A.eval (.tmp 20) = .agg #[.int .i64 s.d, .bool s.b, .bool s.l, .int .i64 s.n, .int .i64 s.x, .bool s.t] := hI.get hd 0 20 rfl (by kernel_rfl)
        have e2 : A.eval (.tmp 2) = .pointer (some ⟨w.heap.size, 0, none⟩) := hI.old 2 (by kernel_rfl)
        obtain ⟨u, hr⟩ := hI.g.r2
        exact at_op rfl rfl (wp_store_row _ _ _ rfl _ _ e2 e1 _ _ hr.row info_sr rfl (by simp [Value.oneCell']) ⟨_, rfl, trivial, hI.g.store hgp s, by simp, fun k hk => absurd trivial hk⟩)
      rcases ix with _ | ix
      · obtain rfl := (Option.some.inj hi).symm
        have e : A.eval (.tmp 21) = .bool q := hI.get hd 1 21 rfl (by kernel_rfl)
        exact at_op rfl rfl (assign_op rfl ⟨_, rfl, e, hI.g, Rel.refl _ _⟩)
      rcases ix with _ | ix
      · obtain rfl := (Option.some.inj hi).symm
        obtain ⟨x, e⟩ : KInt (A.eval (.tmp 23)) W := hI.get hd 3 23 rfl (by kernel_rfl)
        exact at_op rfl rfl (assign_op rfl ⟨_, rfl, ⟨x, e⟩, hI.g, Rel.refl _ _⟩)
      omega
    case done =>
      intro A W hI
      have e2 : A.tmps.getD 2 undef = .pointer (some ⟨w.heap.size, 0, none⟩) := hI.old 2 (by kernel_rfl)
      have e3 : A.tmps.getD 3 undef = .bool q := hI.slot 5 3 rfl rfl
      obtain ⟨x4, e4⟩ : KInt (A.tmps.getD 4 undef) W := hI.slot 6 4 rfl rfl
      have hA := frame_lit A 24 hI.size
      have hg := hI.g
      have hde : A.defers = [] := hI.defers
      rw [hde, show List.range 24 = [0, 1, 2, 3, 4, 5, 6, 7, 8, 9, 10, 11, 12, 13, 14, 15, 16, 17, 18, 19, 20, 21, 22, 23] from rfl] at hA
      simp only [List.map_cons, List.map_nil, e2, e3, e4] at hA
      rw [hA]
      clear hA e2 e3 e4 hI hde
      obtain ⟨u, hr⟩ := hg.r2
      go_wp2
      refine ret_row_tmp2 rfl rfl hr und_sr rfl info_sr rfl rfl rfl ?_
      exact ⟨u, q, x4, rfl, hg.bel⟩
  · go_wp2
    refine region_by (by kernel_rfl) (by kernel_rfl) (fun W => Gr w (w.heap.size + 1) a len cap w2.heap.size w.heap.size s W)
      (kinds [KIs (.agg #[.int .i64 s.d, .bool s.b, .bool s.l, .int .i64 s.n, .int .i64 s.x, .bool s.t]), KIs (.bool q), KIs (.pointer (some ⟨w.heap.size + 1, 0, none⟩)), KInt, KAny, KIs (.bool q), KInt]) (Rel fun _ => True) (by kernel_rfl) (kinds_mono ?mono) hG.drew ?step ?done
    case mono =>
      intro K hK
      simp only [List.mem_cons, List.not_mem_nil, or_false] at hK
      rcases hK with rfl | rfl | rfl | rfl | rfl | rfl | rfl
      all_goals first | exact bears_is _ _ | exact bears_int _ | exact bears_any _
    case step =>
      intro L ix o A W hi hI hL hd
      have hin : ix < 7 := by
        by_cases hl : ix < 7
        · exact hl
        · simp [hl] at hi
      rcases ix with _ | ix
      · obtain rfl := (Option.some.inj hi).symm
        have e : A.eval (.tmp 6) = .pointer (some ⟨w2.heap.size, 0, none⟩) := hI.old 6 (by kernel_rfl)
        exact at_op rfl rfl (wp_load_row _ _ rfl _ e _ _ _ _ hI.g.r5.row und_sr rfl info_sr ⟨_, rfl, rfl, hI.g, Rel.refl _ _⟩)
      rcases ix with _ | ix
      · obtain rfl := (Option.some.inj hi).symm
        exact at_op rfl rfl (move_op rfl ⟨_, rfl, hI.old 7 (by kernel_rfl), hI.g, Rel.refl _ _⟩)
      rcases ix with _ | ix
      · obtain rfl := (Option.some.inj hi).symm
        exact at_op rfl rfl (move_op rfl ⟨_, rfl, hI.old 5 (by kernel_rfl), hI.g, Rel.refl _ _⟩)
      rcases ix with _ | ix
      · obtain rfl := (Option.some.inj hi).symm
        have e : A.eval (.tmp 18) = .pointer (some ⟨w.heap.size + 1, 0, none⟩) := hI.get hd 2 18 rfl (by kernel_rfl)
        refine at_op rfl rfl (call_op rfl Try.func43 (by kernel_rfl) (by kernel_rfl) ?_)
        simp only [List.map_cons, List.map_nil, e]
        refine (num_any 999999968 W hI.g.cur.drawn (by omega) (by omega)).mono ?_
        rintro e w4 ⟨x, rfl, hx, ho4, hd4⟩
        exact ⟨_, rfl, _, rfl, ⟨_, rfl⟩, hI.g.onto hgp ho4 hd4.cur, Rel.onto ho4 trivial⟩
      rcases ix with _ | ix
      · obtain rfl := (Option.some.inj hi).symm
        have e1 : A.eval (.tmp 16) = .agg #[.int .i64 s.d, .bool s.b, .bool s.l, .int .i64 s.n, .int .i64 s.x, .bool s.t] := hI.get hd 0 16 rfl (by kernel_rfl)
        have e2 : A.eval (.tmp 2) = .pointer (some ⟨w.heap.size, 0, none⟩) := hI.old 2 (by kernel_rfl)
        obtain ⟨u, hr⟩ := hI.g.r2
        exact at_op rfl rfl (wp_store_row _ _ _ rfl _ _ e2 e1 _ _ hr.row info_sr rfl (by simp [Value.oneCell']) ⟨_, rfl, trivial, hI.g.store hgp s, by simp, fun k hk => absurd trivial hk⟩)
      rcases ix with _ | ix
      · obtain rfl := (Option.some.inj hi).symm
        have e : A.eval (.tmp 17) = .bool q := hI.get hd 1 17 rfl (by kernel_rfl)
        exact at_op rfl rfl (assign_op rfl ⟨_, rfl, e, hI.g, Rel.refl _ _⟩)
      rcases ix with _ | ix
      · obtain rfl := (Option.some.inj hi).symm
        obtain ⟨x, e⟩ : KInt (A.eval (.tmp 19)) W := hI.get hd 3 19 rfl (by kernel_rfl)
        exact at_op rfl rfl (assign_op rfl ⟨_, rfl, ⟨x, e⟩, hI.g, Rel.refl _ _⟩)
      omega
    case done =>
      intro A W hI
      have e2 : A.tmps.getD 2 undef = .pointer (some ⟨w.heap.size, 0, none⟩) := hI.old 2 (by kernel_rfl)
      have e3 : A.tmps.getD 3 undef = .bool q := hI.slot 5 3 rfl rfl
      obtain ⟨x4, e4⟩ : KInt (A.tmps.getD 4 undef) W := hI.slot 6 4 rfl rfl
      have hA := frame_lit A 24 hI.size
      have hg := hI.g
      have hde : A.defers = [] := hI.defers
      rw [hde, show List.range 24 = [0, 1, 2, 3, 4, 5, 6, 7, 8, 9, 10, 11, 12, 13, 14, 15, 16, 17, 18, 19, 20, 21, 22, 23] from rfl] at hA
      simp only [List.map_cons, List.map_nil, e2, e3, e4] at hA
      rw [hA]
      clear hA e2 e3 e4 hI hde
      obtain ⟨u, hr⟩ := hg.r2
      go_wp2
      refine ret_row_tmp2 rfl rfl hr und_sr rfl info_sr rfl rfl rfl ?_
      exact ⟨u, q, x4, rfl, hg.bel⟩
set_option maxHeartbeats 4000000 in
theorem drawSerialSends_any (a : Option Addr) (len cap : Nat) (w : World) (hc : CodeAt w a len) (hl : len ≤ 4096) :
    Calls Try.prog 19 #[.slice a len cap] w fun e w' => ∃ (s : Sr) (n : Int), e = .returned (.tuple #[s.val, .int .i64 n]) ∧ Below w.heap.size w w' := by
  go_enter Try.func19, Try.ntmps19
  go_wp2_with fail
  go_at_call 40
  refine (new_any a len cap _ (hc.below ((Below.refl _ _).alloc (Nat.le_refl _) _)) hl).mono ?_
  have hB0 : Below w.heap.size w (w.alloc (.cells #[.int .i64 0, .bool false, .bool false, .int .i64 0, .int .i64 0, .bool false] 29)) := (Below.refl _ _).alloc (Nat.le_refl _) _
  have r2 := Row.new w #[.int .i64 0, .bool false, .bool false, .int .i64 0, .int .i64 0, .bool false] 29
  have hsz : (w.alloc (.cells #[.int .i64 0, .bool false, .bool false, .int .i64 0, .int .i64 0, .bool false] 29)).heap.size = w.heap.size + 1 := by simp
  rw [hsz]
  rintro e w1 ⟨rfl, hb1, hcur⟩
  rw [← hsz] at hb1
  replace r2 := r2.below hb1
  have hB1 := hB0.trans (hb1.mono hB0.size)
  have hlc := hcur.lt
  clear hb1 hB0 hsz
  go_wp2_with fail
  go_at_call 41
  refine (l5DrawAny_any _ hcur.drawn).mono ?_
  rintro e w2 ⟨s, rfl, ho2, hd2⟩
  replace r2 := r2.onto ho2 (by omega)
  have hB2 := below_onto hB1 ho2 (by omega)
  rw [Sr.eta]
  have hlt2 := r2.lt
  have hlt12 := ho2.size
  have hcur2 := hd2.cur
  clear ho2 hcur hB1 hd2
  have hgp : Gq w (w.heap.size + 1) a len w2.heap.size w.heap.size := ⟨by omega, Nat.le_refl _, by omega, by omega, by omega, hc.lt⟩
  have hG : Gr w (w.heap.size + 1) a len cap w2.heap.size w.heap.size s (w2.alloc (.cells #[.int .i64 s.d, .bool s.b, .bool s.l, .int .i64 s.n, .int .i64 s.x, .bool s.t] 29)) := ⟨hcur2.below ((Below.refl _ _).alloc (Nat.le_refl _) _), Row.new _ _ _, ⟨Sr.nul, r2.alloc _⟩, hB2.alloc hB2.size _⟩
  clear r2 hB2 hcur2
  go_wp2
  refine region_by (by kernel_rfl) (by kernel_rfl) (fun W => Gr w (w.heap.size + 1) a len cap w2.heap.size w.heap.size s W)
    (kinds [KIs (.agg #[.int .i64 s.d, .bool s.b, .bool s.l, .int .i64 s.n, .int .i64 s.x, .bool s.t]), KIs (.pointer (some ⟨w2.heap.size, 4, none⟩)), KIs (.int .i64 s.x), KIs (.pointer (some ⟨w.heap.size + 1, 0, none⟩)), KInt, KInt, KAny, KInt]) (Rel fun _ => True) (by kernel_rfl) (kinds_mono ?mono) hG.drew ?step ?done
  case mono =>
    intro K hK
    simp only [List.mem_cons, List.not_mem_nil, or_false] at hK
    rcases hK with rfl | rfl | rfl | rfl | rfl | rfl | rfl | rfl
    all_goals first | exact bears_is _ _ | exact bears_int _ | exact bears_any _
  case step =>
    intro L ix o A W hi hI hL hd
    have hin : ix < 8 := by
      by_cases hl : ix < 8
      · exact hl
      · simp [hl] at hi
    rcases ix with _ | ix
    · obtain rfl := (Option.some.inj hi).symm
      have e : A.eval (.tmp 5) = .pointer (some ⟨w2.heap.size, 0, none⟩) := hI.old 5 (by kernel_rfl)
      exact at_op rfl rfl (wp_load_row _ _ rfl _ e _ _ _ _ hI.g.r5.row und_sr rfl info_sr ⟨_, rfl, rfl, hI.g, Rel.refl _ _⟩)
    rcases ix with _ | ix
    · obtain rfl := (Option.some.inj hi).symm
      have e : A.eval (.tmp 5) = .pointer (some ⟨w2.heap.size, 0, none⟩) := hI.old 5 (by kernel_rfl)
      refine at_op rfl rfl (val_op (v := .pointer (some ⟨w2.heap.size, 4, none⟩)) ?_ ⟨_, rfl, rfl, hI.g, Rel.refl _ _⟩)
      unfold execOp
      simp only [List.getElem_toArray, List.getElem_cons_zero, List.getElem_cons_succ, e]
      simp [go_sem]
    rcases ix with _ | ix
    · obtain rfl := (Option.some.inj hi).symm
      have e : A.eval (.tmp 11) = .pointer (some ⟨w2.heap.size, 4, none⟩) := hI.get hd 1 11 rfl (by kernel_rfl)
      exact at_op rfl rfl (load_op rfl Try.underlying2 e (show W.cell? ⟨w2.heap.size, 4, none⟩ = some (.int .i64 s.x) from hI.g.r5.cell 4) ⟨_, rfl, rfl, hI.g, Rel.refl _ _⟩)
    rcases ix with _ | ix
    · obtain rfl := (Option.some.inj hi).symm
      exact at_op rfl rfl (move_op rfl ⟨_, rfl, hI.old 4 (by kernel_rfl), hI.g, Rel.refl _ _⟩)
    rcases ix with _ | ix
    · obtain rfl := (Option.some.inj hi).symm
      have e : A.eval (.tmp 13) = .pointer (some ⟨w.heap.size + 1, 0, none⟩) := hI.get hd 3 13 rfl (by kernel_rfl)
      refine at_op rfl rfl (call_op rfl Try.func45 (by kernel_rfl) (by kernel_rfl) ?_)
      simp only [List.map_cons, List.map_nil, e]
      refine (from_any (-2) 3 W hI.g.cur.drawn (by omega) (by omega) (by omega)).mono ?_
      rintro e w4 ⟨x, rfl, hx, ho4, hd4⟩
      exact ⟨_, rfl, _, rfl, ⟨_, rfl⟩, hI.g.onto hgp ho4 hd4.cur, Rel.onto ho4 trivial⟩
    rcases ix with _ | ix
    · obtain rfl := (Option.some.inj hi).symm
      have e1 : A.eval (.tmp 12) = .int .i64 s.x := hI.get hd 2 12 rfl (by kernel_rfl)
      obtain ⟨z, e2⟩ : KInt (A.eval (.tmp 14)) W := hI.get hd 4 14 rfl (by kernel_rfl)
      exact at_op rfl rfl (bin_op (v := .int .i64 (IntKind.i64.wrap (s.x + z))) rfl e1 e2 (fun w => by simp [go_sem]) ⟨_, rfl, ⟨_, rfl⟩, hI.g, Rel.refl _ _⟩)
    rcases ix with _ | ix
    · obtain rfl := (Option.some.inj hi).symm
      have e1 : A.eval (.tmp 10) = .agg #[.int .i64 s.d, .bool s.b, .bool s.l, .int .i64 s.n, .int .i64 s.x, .bool s.t] := hI.get hd 0 10 rfl (by kernel_rfl)
      have e2 : A.eval (.tmp 2) = .pointer (some ⟨w.heap.size, 0, none⟩) := hI.old 2 (by kernel_rfl)
      obtain ⟨u, hr⟩ := hI.g.r2
      exact at_op rfl rfl (wp_store_row _ _ _ rfl _ _ e2 e1 _ _ hr.row info_sr rfl (by simp [Value.oneCell']) ⟨_, rfl, trivial, hI.g.store hgp s, by simp, fun k hk => absurd trivial hk⟩)
    rcases ix with _ | ix
    · obtain rfl := (Option.some.inj hi).symm
      obtain ⟨x, e⟩ : KInt (A.eval (.tmp 15)) W := hI.get hd 5 15 rfl (by kernel_rfl)
      exact at_op rfl rfl (assign_op rfl ⟨_, rfl, ⟨x, e⟩, hI.g, Rel.refl _ _⟩)
    omega
  case done =>
    intro A W hI
    have e2 : A.tmps.getD 2 undef = .pointer (some ⟨w.heap.size, 0, none⟩) := hI.old 2 (by kernel_rfl)
    obtain ⟨x3, e3⟩ : KInt (A.tmps.getD 3 undef) W := hI.slot 7 3 rfl rfl
    have hA := frame_lit A 16 hI.size
    have hg := hI.g
    have hde : A.defers = [] := hI.defers
    rw [hde, show List.range 16 = [0, 1, 2, 3, 4, 5, 6, 7, 8, 9, 10, 11, 12, 13, 14, 15] from rfl] at hA
    simp only [List.map_cons, List.map_nil, e2, e3] at hA
    rw [hA]
    clear hA e2 e3 hI hde
    obtain ⟨u, hr⟩ := hg.r2
    go_wp2
    refine ret_row_tmp rfl rfl hr und_sr rfl info_sr rfl rfl ?_
    exact ⟨u, x3, rfl, hg.bel⟩
set_option maxHeartbeats 4000000 in
theorem drawSerialBeat_any (a : Option Addr) (len cap : Nat) (w : World) (hc : CodeAt w a len) (hl : len ≤ 4096) :
    Calls Try.prog 20 #[.slice a len cap] w fun e w' => ∃ (s : Sr) (n : Int), e = .returned (.tuple #[s.val, .int .i64 n]) ∧ Below w.heap.size w w' := by
  go_enter Try.func20, Try.ntmps20
  go_wp2_with fail
  go_at_call 40
  refine (new_any a len cap _ (hc.below ((Below.refl _ _).alloc (Nat.le_refl _) _)) hl).mono ?_
  have hB0 : Below w.heap.size w (w.alloc (.cells #[.int .i64 0, .bool false, .bool false, .int .i64 0, .int .i64 0, .bool false] 29)) := (Below.refl _ _).alloc (Nat.le_refl _) _
  have r2 := Row.new w #[.int .i64 0, .bool false, .bool false, .int .i64 0, .int .i64 0, .bool false] 29
  have hsz : (w.alloc (.cells #[.int .i64 0, .bool false, .bool false, .int .i64 0, .int .i64 0, .bool false] 29)).heap.size = w.heap.size + 1 := by simp
  rw [hsz]
  rintro e w1 ⟨rfl, hb1, hcur⟩
  rw [← hsz] at hb1
  replace r2 := r2.below hb1
  have hB1 := hB0.trans (hb1.mono hB0.size)
  have hlc := hcur.lt
  clear hb1 hB0 hsz
  go_wp2_with fail
  go_at_call 41
  refine (l5DrawAny_any _ hcur.drawn).mono ?_
  rintro e w2 ⟨s, rfl, ho2, hd2⟩
  replace r2 := r2.onto ho2 (by omega)
  have hB2 := below_onto hB1 ho2 (by omega)
  rw [Sr.eta]
  have hlt2 := r2.lt
  have hlt12 := ho2.size
  have hcur2 := hd2.cur
  clear ho2 hcur hB1 hd2
  have hgp : Gq w (w.heap.size + 1) a len w2.heap.size w.heap.size := ⟨by omega, Nat.le_refl _, by omega, by omega, by omega, hc.lt⟩
  have hG : Gr w (w.heap.size + 1) a len cap w2.heap.size w.heap.size s (w2.alloc (.cells #[.int .i64 s.d, .bool s.b, .bool s.l, .int .i64 s.n, .int .i64 s.x, .bool s.t] 29)) := ⟨hcur2.below ((Below.refl _ _).alloc (Nat.le_refl _) _), Row.new _ _ _, ⟨Sr.nul, r2.alloc _⟩, hB2.alloc hB2.size _⟩
  clear r2 hB2 hcur2
  go_wp2_with fail
  go_at_call 42
  refine (once_any _ _ hG.cur.drawn (by omega)).mono ?_
  rintro e w4 ⟨z, rfl, ho, hd⟩
  replace hG := hG.onto hgp ho hd.cur
  clear ho hd
  cases z
  · go_wp2
    refine region_by (by kernel_rfl) (by kernel_rfl) (fun W => Gr w (w.heap.size + 1) a len cap w2.heap.size w.heap.size s W)
      (kinds [KIs (.agg #[.int .i64 s.d, .bool s.b, .bool s.l, .int .i64 s.n, .int .i64 s.x, .bool s.t]), KIs (.pointer (some ⟨w.heap.size + 1, 0, none⟩)), KInt, KAny, KInt]) (Rel fun _ => True) (by kernel_rfl) (kinds_mono ?mono) hG.drew ?step ?done
    case mono =>
      intro K hK
      simp only [List.mem_cons, List.not_mem_nil, or_false] at hK
      rcases hK with rfl | rfl | rfl | rfl | rfl
      all_goals first | exact bears_is _ _ | exact bears_int _ | exact bears_any _
    case step =>
      intro L ix o A W hi hI hL hd
      have hin : ix < 5 := by
        by_cases hl : ix < 5
        · exact hl
        · simp [hl] at hi
      rcases ix with _ | ix
      · obtain rfl := (Option.some.inj hi).symm
        have e : A.eval (.tmp 5) = .pointer (some ⟨w2.heap.size, 0, none⟩) := hI.old 5 (by kernel_rfl)
        exact at_op rfl rfl (wp_load_row _ _ rfl _ e _ _ _ _ hI.g.r5.row und_sr rfl info_sr ⟨_, rfl, rfl, hI.g, Rel.refl _ _⟩)
      rcases ix with _ | ix
      · obtain rfl := (Option.some.inj hi).symm
        exact at_op rfl rfl (move_op rfl ⟨_, rfl, hI.old 4 (by kernel_rfl), hI.g, Rel.refl _ _⟩)
      rcases ix with _ | ix
      · obtain rfl := (Option.some.inj hi).symm
        have e : A.eval (.tmp 16) = .pointer (some ⟨w.heap.size + 1, 0, none⟩) := hI.get hd 1 16 rfl (by kernel_rfl)
        refine at_op rfl rfl (call_op rfl Try.func44 (by kernel_rfl) (by kernel_rfl) ?_)
        simp only [List.map_cons, List.map_nil, e]
        refine (below_any 2 W hI.g.cur.drawn (by omega)).mono ?_
        rintro e w4 ⟨x, rfl, hx, ho4, hd4⟩
        exact ⟨_, rfl, _, rfl, ⟨_, rfl⟩, hI.g.onto hgp ho4 hd4.cur, Rel.onto ho4 trivial⟩
      rcases ix with _ | ix
      · obtain rfl := (Option.some.inj hi).symm
        have e1 : A.eval (.tmp 15) = .agg #[.int .i64 s.d, .bool s.b, .bool s.l, .int .i64 s.n, .int .i64 s.x, .bool s.t] := hI.get hd 0 15 rfl (by kernel_rfl)
        have e2 : A.eval (.tmp 2) = .pointer (some ⟨w.heap.size, 0, none⟩) := hI.old 2 (by kernel_rfl)
        obtain ⟨u, hr⟩ := hI.g.r2
        exact at_op rfl rfl (wp_store_row _ _ _ rfl _ _ e2 e1 _ _ hr.row info_sr rfl (by simp [Value.oneCell']) ⟨_, rfl, trivial, hI.g.store hgp s, by simp, fun k hk => absurd trivial hk⟩)
      rcases ix with _ | ix
      · obtain rfl := (Option.some.inj hi).symm
        obtain ⟨x, e⟩ : KInt (A.eval (.tmp 17)) W := hI.get hd 2 17 rfl (by kernel_rfl)
        exact at_op rfl rfl (assign_op rfl ⟨_, rfl, ⟨x, e⟩, hI.g, Rel.refl _ _⟩)
      omega
    case done =>
      intro A W hI
      have e2 : A.tmps.getD 2 undef = .pointer (some ⟨w.heap.size, 0, none⟩) := hI.old 2 (by kernel_rfl)
      obtain ⟨x3, e3⟩ : KInt (A.tmps.getD 3 undef) W := hI.slot 4 3 rfl rfl
      have hA := frame_lit A 18 hI.size
      have hg := hI.g
      have hde : A.defers = [] := hI.defers
      rw [hde, show List.range 18 = [0, 1, 2, 3, 4, 5, 6, 7, 8, 9, 10, 11, 12, 13, 14, 15, 16, 17] from rfl] at hA
      simp only [List.map_cons, List.map_nil, e2, e3] at hA
      rw [hA]
      clear hA e2 e3 hI hde
      obtain ⟨u, hr⟩ := hg.r2
      go_wp2
      refine ret_row_tmp rfl rfl hr und_sr rfl info_sr rfl rfl ?_
      exact ⟨u, x3, rfl, hg.bel⟩
  · go_wp2
    refine region_by (by kernel_rfl) (by kernel_rfl) (fun W => Gr w (w.heap.size + 1) a len cap w2.heap.size w.heap.size s W)
      (kinds [KIs (.agg #[.int .i64 s.d, .bool s.b, .bool s.l, .int .i64 s.n, .int .i64 s.x, .bool s.t]), KIs (.pointer (some ⟨w.heap.size + 1, 0, none⟩)), KInt, KAny, KInt]) (Rel fun _ => True) (by kernel_rfl) (kinds_mono ?mono) hG.drew ?step ?done
    case mono =>
      intro K hK
      simp only [List.mem_cons, List.not_mem_nil, or_false] at hK
      rcases hK with rfl | rfl | rfl | rfl | rfl
      all_goals first | exact bears_is _ _ | exact bears_int _ | exact bears_any _
    case step =>
      intro L ix o A W hi hI hL hd
      have hin : ix < 5 := by
        by_cases hl : ix < 5
        · exact hl
        · simp [hl] at hi
      rcases ix with _ | ix
      · obtain rfl := (Option.some.inj hi).symm
        have e : A.eval (.tmp 5) = .pointer (some ⟨w2.heap.size, 0, none⟩) := hI.old 5 (by kernel_rfl)
        exact at_op rfl rfl (wp_load_row _ _ rfl _ e _ _ _ _ hI.g.r5.row und_sr rfl info_sr ⟨_, rfl, rfl, hI.g, Rel.refl _ _⟩)
      rcases ix with _ | ix
      · obtain rfl := (Option.some.inj hi).symm
        exact at_op rfl rfl (move_op rfl ⟨_, rfl, hI.old 4 (by kernel_rfl), hI.g, Rel.refl _ _⟩)
      rcases ix with _ | ix
      · obtain rfl := (Option.some.inj hi).symm
        have e : A.eval (.tmp 13) = .pointer (some ⟨w.heap.size + 1, 0, none⟩) := hI.get hd 1 13 rfl (by kernel_rfl)
        refine at_op rfl rfl (call_op rfl Try.func45 (by kernel_rfl) (by kernel_rfl) ?_)
        simp only [List.map_cons, List.map_nil, e]
        refine (from_any (-1) 2 W hI.g.cur.drawn (by omega) (by omega) (by omega)).mono ?_
        rintro e w4 ⟨x, rfl, hx, ho4, hd4⟩
        exact ⟨_, rfl, _, rfl, ⟨_, rfl⟩, hI.g.onto hgp ho4 hd4.cur, Rel.onto ho4 trivial⟩
      rcases ix with _ | ix
      · obtain rfl := (Option.some.inj hi).symm
        have e1 : A.eval (.tmp 12) = .agg #[.int .i64 s.d, .bool s.b, .bool s.l, .int .i64 s.n, .int .i64 s.x, .bool s.t] := hI.get hd 0 12 rfl (by kernel_rfl)
        have e2 : A.eval (.tmp 2) = .pointer (some ⟨w.heap.size, 0, none⟩) := hI.old 2 (by kernel_rfl)
        obtain ⟨u, hr⟩ := hI.g.r2
        exact at_op rfl rfl (wp_store_row _ _ _ rfl _ _ e2 e1 _ _ hr.row info_sr rfl (by simp [Value.oneCell']) ⟨_, rfl, trivial, hI.g.store hgp s, by simp, fun k hk => absurd trivial hk⟩)
      rcases ix with _ | ix
      · obtain rfl := (Option.some.inj hi).symm
        obtain ⟨x, e⟩ : KInt (A.eval (.tmp 14)) W := hI.get hd 2 14 rfl (by kernel_rfl)
        exact at_op rfl rfl (assign_op rfl ⟨_, rfl, ⟨x, e⟩, hI.g, Rel.refl _ _⟩)
      omega
    case done =>
      intro A W hI
      have e2 : A.tmps.getD 2 undef = .pointer (some ⟨w.heap.size, 0, none⟩) := hI.old 2 (by kernel_rfl)
      obtain ⟨x3, e3⟩ : KInt (A.tmps.getD 3 undef) W := hI.slot 4 3 rfl rfl
      have hA := frame_lit A 18 hI.size
      have hg := hI.g
      have hde : A.defers = [] := hI.defers
      rw [hde, show List.range 18 = [0, 1, 2, 3, 4, 5, 6, 7, 8, 9, 10, 11, 12, 13, 14, 15, 16, 17] from rfl] at hA
      simp only [List.map_cons, List.map_nil, e2, e3] at hA
      rw [hA]
      clear hA e2 e3 hI hde
      obtain ⟨u, hr⟩ := hg.r2
      go_wp2
      refine ret_row_tmp rfl rfl hr und_sr rfl info_sr rfl rfl ?_
      exact ⟨u, x3, rfl, hg.bel⟩
set_option maxHeartbeats 4000000 in
theorem drawSerialAnswer_any (a : Option Addr) (len cap : Nat) (w : World) (hc : CodeAt w a len) (hl : len ≤ 4096) :
    Calls Try.prog 21 #[.slice a len cap] w fun e w' => ∃ (s : Sr) (q : Int) (n : Int), e = .returned (.tuple #[s.val, .int .i64 q, .int .i64 n]) ∧ Below w.heap.size w w' := by
  go_enter Try.func21, Try.ntmps21
  go_wp2_with fail
  go_at_call 40
  refine (new_any a len cap _ (hc.below ((Below.refl _ _).alloc (Nat.le_refl _) _)) hl).mono ?_
  have hB0 : Below w.heap.size w (w.alloc (.cells #[.int .i64 0, .bool false, .bool false, .int .i64 0, .int .i64 0, .bool false] 29)) := (Below.refl _ _).alloc (Nat.le_refl _) _
  have r2 := Row.new w #[.int .i64 0, .bool false, .bool false, .int .i64 0, .int .i64 0, .bool false] 29
  have hsz : (w.alloc (.cells #[.int .i64 0, .bool false, .bool false, .int .i64 0, .int .i64 0, .bool false] 29)).heap.size = w.heap.size + 1 := by simp
  rw [hsz]
  rintro e w1 ⟨rfl, hb1, hcur⟩
  rw [← hsz] at hb1
  replace r2 := r2.below hb1
  have hB1 := hB0.trans (hb1.mono hB0.size)
  have hlc := hcur.lt
  clear hb1 hB0 hsz
  go_wp2_with fail
  go_at_call 20
  refine (drawSerialBeat_any a len cap _ hcur.code hl).mono ?_
  rintro e w2 ⟨s, bit, rfl, hb2⟩
  replace r2 := r2.below hb2
  have hB2 := hB1.trans (hb2.mono hB1.size)
  rw [Sr.eta]
  have hlt2 := r2.lt
  have hlt12 := hb2.size
  have hcur2 := hcur.below hb2
  clear hb2 hcur hB1
  have hgp : Gq w (w.heap.size + 1) a len w2.heap.size w.heap.size := ⟨by omega, Nat.le_refl _, by omega, by omega, by omega, hc.lt⟩
  have hG : Gr w (w.heap.size + 1) a len cap w2.heap.size w.heap.size s (w2.alloc (.cells #[.int .i64 s.d, .bool s.b, .bool s.l, .int .i64 s.n, .int .i64 s.x, .bool s.t] 29)) := ⟨hcur2.below ((Below.refl _ _).alloc (Nat.le_refl _) _), Row.new _ _ _, ⟨Sr.nul, r2.alloc _⟩, hB2.alloc hB2.size _⟩
  clear r2 hB2 hcur2
  go_wp2_with fail
  go_at_call 42
  refine (once_any _ _ hG.cur.drawn (by omega)).mono ?_
  rintro e w4 ⟨z, rfl, ho, hd⟩
  replace hG := hG.onto hgp ho hd.cur
  clear ho hd
  cases z
  · go_wp2
    refine region_by (by kernel_rfl) (by kernel_rfl) (fun W => Gr w (w.heap.size + 1) a len cap w2.heap.size w.heap.size s W)
      (kinds [KIs (.agg #[.int .i64 s.d, .bool s.b, .bool s.l, .int .i64 s.n, .int .i64 s.x, .bool s.t]), KIs (.int .i64 bit), KIs (.pointer (some ⟨w.heap.size + 1, 0, none⟩)), KInt, KAny, KIs (.int .i64 bit), KInt]) (Rel fun _ => True) (by kernel_rfl) (kinds_mono ?mono) hG.drew ?step ?done
    case mono =>
      intro K hK
      simp only [List.mem_cons, List.not_mem_nil, or_false] at hK
      rcases hK with rfl | rfl | rfl | rfl | rfl | rfl | rfl
      all_goals first | exact bears_is _ _ | exact bears_int _ | exact bears_any _
    case step =>
      intro L ix o A W hi hI hL hd
      have hin : ix < 7 := by
        by_cases hl : ix < 7
        · exact hl
        · simp [hl] at hi
      rcases ix with _ | ix
      · obtain rfl := (Option.some.inj hi).symm
        have e : A.eval (.tmp 6) = .pointer (some ⟨w2.heap.size, 0, none⟩) := hI.old 6 (by kernel_rfl)
        exact at_op rfl rfl (wp_load_row _ _ rfl _ e _ _ _ _ hI.g.r5.row und_sr rfl info_sr ⟨_, rfl, rfl, hI.g, Rel.refl _ _⟩)
      rcases ix with _ | ix
      · obtain rfl := (Option.some.inj hi).symm
        exact at_op rfl rfl (move_op rfl ⟨_, rfl, hI.old 7 (by kernel_rfl), hI.g, Rel.refl _ _⟩)
      rcases ix with _ | ix
      · obtain rfl := (Option.some.inj hi).symm
        exact at_op rfl rfl (move_op rfl ⟨_, rfl, hI.old 5 (by kernel_rfl), hI.g, Rel.refl _ _⟩)
      rcases ix with _ | ix
      · obtain rfl := (Option.some.inj hi).symm
        have e : A.eval (.tmp 23) = .pointer (some ⟨w.heap.size + 1, 0, none⟩) := hI.get hd 2 23 rfl (by kernel_rfl)
        refine at_op rfl rfl (call_op rfl Try.func44 (by kernel_rfl) (by kernel_rfl) ?_)
        simp only [List.map_cons, List.map_nil, e]
        refine (below_any 300 W hI.g.cur.drawn (by omega)).mono ?_
        rintro e w4 ⟨x, rfl, hx, ho4, hd4⟩
        exact ⟨_, rfl, _, rfl, ⟨_, rfl⟩, hI.g.onto hgp ho4 hd4.cur, Rel.onto ho4 trivial⟩
      rcases ix with _ | ix
      · obtain rfl := (Option.some.inj hi).symm
        have e1 : A.eval (.tmp 21) = .agg #[.int .i64 s.d, .bool s.b, .bool s.l, .int .i64 s.n, .int .i64 s.x, .bool s.t] := hI.get hd 0 21 rfl (by kernel_rfl)
        have e2 : A.eval (.tmp 2) = .pointer (some ⟨w.heap.size, 0, none⟩) := hI.old 2 (by kernel_rfl)
        obtain ⟨u, hr⟩ := hI.g.r2
        exact at_op rfl rfl (wp_store_row _ _ _ rfl _ _ e2 e1 _ _ hr.row info_sr rfl (by simp [Value.oneCell']) ⟨_, rfl, trivial, hI.g.store hgp s, by simp, fun k hk => absurd trivial hk⟩)
      rcases ix with _ | ix
      · obtain rfl := (Option.some.inj hi).symm
        have e : A.eval (.tmp 22) = .int .i64 bit := hI.get hd 1 22 rfl (by kernel_rfl)
        exact at_op rfl rfl (assign_op rfl ⟨_, rfl, e, hI.g, Rel.refl _ _⟩)
      rcases ix with _ | ix
      · obtain rfl := (Option.some.inj hi).symm
        obtain ⟨x, e⟩ : KInt (A.eval (.tmp 24)) W := hI.get hd 3 24 rfl (by kernel_rfl)
        exact at_op rfl rfl (assign_op rfl ⟨_, rfl, ⟨x, e⟩, hI.g, Rel.refl _ _⟩)
      omega
    case done =>
      intro A W hI
      have e2 : A.tmps.getD 2 undef = .pointer (some ⟨w.heap.size, 0, none⟩) := hI.old 2 (by kernel_rfl)
      have e3 : A.tmps.getD 3 undef = .int .i64 bit := hI.slot 5 3 rfl rfl
      obtain ⟨x4, e4⟩ : KInt (A.tmps.getD 4 undef) W := hI.slot 6 4 rfl rfl
      have hA := frame_lit A 25 hI.size
      have hg := hI.g
      have hde : A.defers = [] := hI.defers
      rw [hde, show List.range 25 = [0, 1, 2, 3, 4, 5, 6, 7, 8, 9, 10, 11, 12, 13, 14, 15, 16, 17, 18, 19, 20, 21, 22, 23, 24] from rfl] at hA
      simp only [List.map_cons, List.map_nil, e2, e3, e4] at hA
      rw [hA]
      clear hA e2 e3 e4 hI hde
      obtain ⟨u, hr⟩ := hg.r2
      go_wp2
      refine ret_row_tmp2 rfl rfl hr und_sr rfl info_sr rfl rfl rfl ?_
      exact ⟨u, bit, x4, rfl, hg.bel⟩
  · go_wp2
    refine region_by (by kernel_rfl) (by kernel_rfl) (fun W => Gr w (w.heap.size + 1) a len cap w2.heap.size w.heap.size s W)
      (kinds [KIs (.agg #[.int .i64 s.d, .bool s.b, .bool s.l, .int .i64 s.n, .int .i64 s.x, .bool s.t]), KIs (.int .i64 bit), KIs (.pointer (some ⟨w.heap.size + 1, 0, none⟩)), KInt, KAny, KIs (.int .i64 bit), KInt]) (Rel fun _ => True) (by kernel_rfl) (kinds_mono ?mono) hG.drew ?step ?done
    case mono =>
      intro K hK
      simp only [List.mem_cons, List.not_mem_nil, or_false] at hK
      rcases hK with rfl | rfl | rfl | rfl | rfl | rfl | rfl
      all_goals first | exact bears_is _ _ | exact bears_int _ | exact bears_any _
    case step =>
      intro L ix o A W hi hI hL hd
      have hin : ix < 7 := by
        by_cases hl : ix < 7
        · exact hl
        · simp [hl] at hi
      rcases ix with _ | ix
      · obtain rfl := (Option.some.inj hi).symm
        have e : A.eval (.tmp 6) = .pointer (some ⟨w2.heap.size, 0, none⟩) := hI.old 6 (by kernel_rfl)
        exact at_op rfl rfl (wp_load_row _ _ rfl _ e _ _ _ _ hI.g.r5.row und_sr rfl info_sr ⟨_, rfl, rfl, hI.g, Rel.refl _ _⟩)
      rcases ix with _ | ix
      · obtain rfl := (Option.some.inj hi).symm
        exact at_op rfl rfl (move_op rfl ⟨_, rfl, hI.old 7 (by kernel_rfl), hI.g, Rel.refl _ _⟩)
      rcases ix with _ | ix
      · obtain rfl := (Option.some.inj hi).symm
        exact at_op rfl rfl (move_op rfl ⟨_, rfl, hI.old 5 (by kernel_rfl), hI.g, Rel.refl _ _⟩)
      rcases ix with _ | ix
      · obtain rfl := (Option.some.inj hi).symm
        have e : A.eval (.tmp 19) = .pointer (some ⟨w.heap.size + 1, 0, none⟩) := hI.get hd 2 19 rfl (by kernel_rfl)
        refine at_op rfl rfl (call_op rfl Try.func43 (by kernel_rfl) (by kernel_rfl) ?_)
        simp only [List.map_cons, List.map_nil, e]
        refine (num_any 999999968 W hI.g.cur.drawn (by omega) (by omega)).mono ?_
        rintro e w4 ⟨x, rfl, hx, ho4, hd4⟩
        exact ⟨_, rfl, _, rfl, ⟨_, rfl⟩, hI.g.onto hgp ho4 hd4.cur, Rel.onto ho4 trivial⟩
      rcases ix with _ | ix
      · obtain rfl := (Option.some.inj hi).symm
        have e1 : A.eval (.tmp 17) = .agg #[.int .i64 s.d, .bool s.b, .bool s.l, .int .i64 s.n, .int .i64 s.x, .bool s.t] := hI.get hd 0 17 rfl (by kernel_rfl)
        have e2 : A.eval (.tmp 2) = .pointer (some ⟨w.heap.size, 0, none⟩) := hI.old 2 (by kernel_rfl)
        obtain ⟨u, hr⟩ := hI.g.r2
        exact at_op rfl rfl (wp_store_row _ _ _ rfl _ _ e2 e1 _ _ hr.row info_sr rfl (by simp [Value.oneCell']) ⟨_, rfl, trivial, hI.g.store hgp s, by simp, fun k hk => absurd trivial hk⟩)
      rcases ix with _ | ix
      · obtain rfl := (Option.some.inj hi).symm
        have e : A.eval (.tmp 18) = .int .i64 bit := hI.get hd 1 18 rfl (by kernel_rfl)
        exact at_op rfl rfl (assign_op rfl ⟨_, rfl, e, hI.g, Rel.refl _ _⟩)
      rcases ix with _ | ix
      · obtain rfl := (Option.some.inj hi).symm
        obtain ⟨x, e⟩ : KInt (A.eval (.tmp 20)) W := hI.get hd 3 20 rfl (by kernel_rfl)
        exact at_op rfl rfl (assign_op rfl ⟨_, rfl, ⟨x, e⟩, hI.g, Rel.refl _ _⟩)
      omega
    case done =>
      intro A W hI
      have e2 : A.tmps.getD 2 undef = .pointer (some ⟨w.heap.size, 0, none⟩) := hI.old 2 (by kernel_rfl)
      have e3 : A.tmps.getD 3 undef = .int .i64 bit := hI.slot 5 3 rfl rfl
      obtain ⟨x4, e4⟩ : KInt (A.tmps.getD 4 undef) W := hI.slot 6 4 rfl rfl
      have hA := frame_lit A 25 hI.size
      have hg := hI.g
      have hde : A.defers = [] := hI.defers
      rw [hde, show List.range 25 = [0, 1, 2, 3, 4, 5, 6, 7, 8, 9, 10, 11, 12, 13, 14, 15, 16, 17, 18, 19, 20, 21, 22, 23, 24] from rfl] at hA
      simp only [List.map_cons, List.map_nil, e2, e3, e4] at hA
      rw [hA]
      clear hA e2 e3 e4 hI hde
      obtain ⟨u, hr⟩ := hg.r2
      go_wp2
      refine ret_row_tmp2 rfl rfl hr und_sr rfl info_sr rfl rfl rfl ?_
      exact ⟨u, bit, x4, rfl, hg.bel⟩
end Go.Proofs.Ytdcmjajipkpbnaa.Srl
