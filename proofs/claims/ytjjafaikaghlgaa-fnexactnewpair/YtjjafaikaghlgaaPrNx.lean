/-
  The exact law of NewPair.
-/
import Derived.Test.YtjjafaikaghlgaaPrHd
import Derived.Test.YtjjafaikaghlgaaPrEx
namespace Go.Proofs.Ytjjafaikaghlgaa.Mem
open Go.ChangeShapes Go.WideShapes Go.RowKit Base Num Slc Slf Rw Tmr Rom Reg Ex
set_option linter.unusedVariables false
set_option linter.unusedSimpArgs false
set_option maxRecDepth 20000

theorem newMc_len2 (l : List Int) : (newMc l).rom.length ≤ 128 ∧ (newMc l).ram.length ≤ 64 := by
  unfold newMc
  split
  · rename_i h
    exact ⟨(romOk_len h).2, by simp [Mc.fresh]⟩
  · simp [Mc.nul]
theorem newPair_size {a b : List Int} {la lb : List M3} {p : Pr} {ok : Bool} (h : newPair a b la lb = (p, ok)) (hl : la.length + lb.length ≤ 1048576) : p.size ≤ 1100000 := by
  have h1 := newMc_len2 a
  have h2 := newMc_len2 b
  unfold newPair at h
  split at h
  all_goals
    cases h
    simp [Pr.size, tot, sm, Mc.len]
    try omega
theorem newPair_specq {va vb ka kb : Value} {a b : List Int} {la lb : List M3} {w : World} {p : Pr} {ok : Bool} (hq : newPair a b la lb = (p, ok)) (ha : Sl w va a) (hb : Sl w vb b) (hka : SlF fM w ka la) (hkb : SlF fM w kb lb) :
    Calls Try.prog 11 #[va, vb, ka, kb] w fun e w' => ∃ v, e = .returned (.tuple #[v, .bool ok]) ∧ PSl w' v p ∧ Below w.heap.size w w' := by
  have h := newPair_spec va vb ka kb a b la lb w ha hb hka hkb
  rw [hq] at h
  exact h
theorem newPair_implq {va vb ka kb : Value} {a b : List Int} {la lb : List M3} {w : World} {p : Pr} {ok : Bool} (hq : newPair a b la lb = (p, ok)) (ha : Sl w va a) (hb : Sl w vb b) (hka : SlF fM w ka la) (hkb : SlF fM w kb lb) :
    Calls Try.prog 14 #[va, vb, ka, kb] w fun e w' => ∃ x y z uM uS uE, e = .returned (.tuple #[.agg #[x, y, z], .bool ok]) ∧ PParts 82 84 86 w.heap.size w' x y z uM uS uE p ∧ Below w.heap.size w w' := by
  have h := newPair_impl va vb ka kb a b la lb w ha hb hka hkb
  rw [hq] at h
  exact h
section
variable {ops : Array Oper} {rest : List Oper} {o : Oper} {a : Act} {w : World} {Q : Exit → Act → World → Prop} {g : Nat} {q : Operand} {x y z : Value} {T : TypeId}
theorem ld_prg (hw : Region.wanted o (yielded ops a.tmps) = true) (ho : o.op = .load 33 q) (hx : a.eval q = .pointer (some ⟨g, 0, none⟩)) (hr : Row w g #[x, y, z] T)
    (h : wpList Try.prog ops Q rest (a.put o.dst (.agg #[x, y, z])) w) : wpList Try.prog ops Q (o :: rest) a w :=
  wpList_step fun K hK => by
    rw [if_pos hw]
    exact wp_load_row _ _ ho _ hx _ _ _ _ hr.row Try.underlying33 rfl sz_ip (hK _ _ h)
end
theorem newB {w2 w3 w4 : World} (hb : Below w2.heap.size w2 w3) (ho : Onto w2.heap.size w3 w4) : Below w2.heap.size w2 w4 := below_onto hb ho (Nat.le_refl _)
/-- Blocks of a list of one's own, bounded. -/
theorem blk {w w1 w2 : World} {n : Nat} {v : Value} (h : ∀ k, v.ownBlock = some k → n ≤ k ∧ k < w.heap.size) (hs : w.heap.size ≤ w2.heap.size) : ∀ k, v.ownBlock = some k → n ≤ k ∧ k < w2.heap.size := fun k hk => ⟨(h k hk).1, Nat.lt_of_lt_of_le (h k hk).2 hs⟩

set_option maxHeartbeats 4000000 in
theorem exNewPair (va vb ka kb : Value) (a b : List Int) (la lb : List M3) (w : World) (hA : Sl w va a) (hB : Sl w vb b) (hK : SlF fL w ka la) (hL : SlF fL w kb lb) :
    Calls Try.prog 4 #[va, vb, ka, kb] w fun e w' => e = .returned (.bool true) ∧ Below w.heap.size w w' := by
  obtain ⟨aa, ca, rfl, -, hla, hca, -⟩ := id hA
  obtain ⟨ab, cb, rfl, -, hlb, hcb, -⟩ := id hB
  unfold maxLen at hca hcb
  by_cases s1 : (1048576 : Int) < (a.length : Int)
  · go_enter Try.func4, Try.ntmps4
    go_wp2
    go_ret
    exact ⟨rfl, Below.refl _ _⟩
  by_cases s2 : (1048576 : Int) < (b.length : Int)
  · go_enter Try.func4, Try.ntmps4
    go_wp2
    go_ret
    exact ⟨rfl, Below.refl _ _⟩
  by_cases s3 : (1048576 : Int) < (la.length : Int)
  · go_enter Try.func4, Try.ntmps4
    go_wp2_with fail
    go_at_call 10
    refine (szMsgS_any _ la _ _ hK (by omega)).mono ?_
    rintro e w1 ⟨rfl, rfl⟩
    rw [if_pos (show (1048576 : Int) < (la.length : Int) by omega)]
    go_wp2
    go_ret
    exact ⟨rfl, Below.refl _ _⟩
  have n3 : ¬ (1048576 : Int) - (la.length : Int) < 0 := by omega
  by_cases s4 : (1048576 : Int) - (la.length : Int) < (lb.length : Int)
  · go_enter Try.func4, Try.ntmps4
    go_wp2_with fail
    go_at_call 10
    refine (szMsgS_any _ la _ _ hK (by omega)).mono ?_
    rintro e w1 ⟨rfl, rfl⟩
    rw [if_neg (show ¬ (1048576 : Int) < (la.length : Int) by omega)]
    go_wp2_with fail
    go_at_call 10
    refine (szMsgS_any _ lb _ _ hL (by omega)).mono ?_
    rintro e w2 ⟨rfl, rfl⟩
    rw [if_pos (show (1048576 : Int) - (la.length : Int) < (lb.length : Int) by omega)]
    go_wp2
    go_ret
    exact ⟨rfl, Below.refl _ _⟩
  have n4 : ¬ (1048576 : Int) - (la.length : Int) - (lb.length : Int) < 0 := by omega
  obtain ⟨p, ok, hq⟩ : ∃ p ok, newPair a b la lb = (p, ok) := ⟨_, _, rfl⟩
  have hsz := newPair_size hq (by omega)
  have hnn : (ok != ok) = false := by simp
  have HQ : Hid (newPair a b la lb = (p, ok)) := hq
  clear hq
  go_enter Try.func4, Try.ntmps4
  go_wp2_with fail
  go_at_call 10
  refine (szMsgS_any _ la _ _ hK (by omega)).mono ?_
  rintro e w1 ⟨rfl, rfl⟩
  rw [if_neg (show ¬ (1048576 : Int) < (la.length : Int) by omega)]
  go_wp2_with fail
  go_at_call 10
  refine (szMsgS_any _ lb _ _ hL (by omega)).mono ?_
  rintro e w0 ⟨rfl, rfl⟩
  rw [if_neg (show ¬ (1048576 : Int) - (la.length : Int) < (lb.length : Int) by omega)]
  go_wp2_with fail
  go_at_call 12
  refine (to_any _ a _ hA (by omega)).mono ?_
  rintro e t0 ⟨tv0, rfl, th0, tb0⟩
  have tl0 := th0.lt
  have tz0 := tb0.size
  have tB0 := tb0
  go_wp2_with fail
  go_at_call 12
  refine (to_any _ b _ (hB.below tB0) (by omega)).mono ?_
  rintro e t1 ⟨tv1, rfl, th1, tb1⟩
  have tl1 := th1.lt
  have tz1 := tb1.size
  have tB1 := below_more tB0 tb1
  go_wp2_with fail
  go_at_call 13
  refine (toMsgS_any _ la _ (hK.below tB1) (by omega)).mono ?_
  rintro e t2 ⟨tv2, rfl, th2, tb2⟩
  have tl2 := th2.lt
  have tz2 := tb2.size
  have tB2 := below_more tB1 tb2
  go_wp2_with fail
  go_at_call 13
  refine (toMsgS_any _ lb _ (hL.below tB2) (by omega)).mono ?_
  rintro e t3 ⟨tv3, rfl, th3, tb3⟩
  have tl3 := th3.lt
  have tz3 := tb3.size
  have tB3 := below_more tB2 tb3
  have tk2 := tb3
  have tk1 := below_more tb2 tb3
  have tk0 := below_more tb1 tk1
  go_wp2_with fail
  go_at_call 11
  refine (newPair_specq HQ.out (th0.below tk0).sl (th1.below tk1).sl ((th2.below tk2).sl okM) (th3.sl okM)).mono ?_
  rintro e wa ⟨v, rfl, hp, ba⟩
  obtain ⟨px, py, pz, rfl, j1, j2, j3⟩ := id hp
  have q1 := j1.one
  have q2 := j2.one
  have q3 := j3.one
  have Ba := below_more tB3 ba
  clear th0 th1 th2 th3 tl0 tl1 tl2 tl3 tk0 tk1 tk2 tb0 tb1 tb2 tb3 tB0 tB1 tB2 j1 j2 j3
  go_wp2_with (first
    | (refine al_pr rfl rfl ?_; intro wb zb bb; have Bb := below_more Ba bb)
    | (refine st_pr rfl rfl rfl rfl zb q1 q2 q3 ?_; rintro wP rP oP -; have hP := hp.below (newB bb oP); have BP := below_onto Bb oP Ba.size; have lP := rP.lt))
  clear zb hp bb Bb
  go_wp2_with fail
  go_at_call 12
  refine (to_any _ a _ (hA.below BP) (by omega)).mono ?_
  rintro e x0 ⟨xv0, rfl, xh0, xb0⟩
  have xl0 := xh0.lt
  have xz0 := xb0.size
  have xB0 := below_more BP xb0
  go_wp2_with fail
  go_at_call 12
  refine (to_any _ b _ (hB.below xB0) (by omega)).mono ?_
  rintro e x1 ⟨xv1, rfl, xh1, xb1⟩
  have xl1 := xh1.lt
  have xz1 := xb1.size
  have xB1 := below_more xB0 xb1
  go_wp2_with fail
  go_at_call 13
  refine (toMsgS_any _ la _ (hK.below xB1) (by omega)).mono ?_
  rintro e x2 ⟨xv2, rfl, xh2, xb2⟩
  have xl2 := xh2.lt
  have xz2 := xb2.size
  have xB2 := below_more xB1 xb2
  go_wp2_with fail
  go_at_call 13
  refine (toMsgS_any _ lb _ (hL.below xB2) (by omega)).mono ?_
  rintro e x3 ⟨xv3, rfl, xh3, xb3⟩
  have xl3 := xh3.lt
  have xz3 := xb3.size
  have xB3 := below_more xB2 xb3
  have xk2 := xb3
  have xk1 := below_more xb2 xb3
  have xk0 := below_more xb1 xk1
  have bP := below_more xb0 xk0
  have BX := xB3
  go_wp2_with fail
  go_at_call 14
  refine (newPair_implq HQ.out (xh0.below xk0).sl (xh1.below xk1).sl ((xh2.below xk2).sl okM) (xh3.sl okM)).mono ?_
  rintro e wi ⟨gx, gy, gz, uM, uS, uE, rfl, hg, bi⟩
  have X0 := (xh0.below xk0).below bi
  have X1 := (xh1.below xk1).below bi
  have X2 := (xh2.below xk2).below bi
  have X3 := xh3.below bi
  have g1 := hg.sl
  obtain ⟨_, _, _, hgg, j1, j2, j3⟩ := id g1
  have q4 : gx.oneCell' = true ∧ gy.oneCell' = true ∧ gz.oneCell' = true := by cases hgg; exact ⟨j1.one, j2.one, j3.one⟩
  have top := fun q => @PParts.top _ _ _ _ _ _ _ _ _ _ _ _ hg q
  have bP2 := below_more bP bi
  have BI := below_more BX bi
  have si := bi.size
  have lPx := bP.size
  clear xh0 xh1 xh2 xh3 xk0 xk1 xk2 xB0 xB1 xB2 hgg j1 j2 j3 g1
  go_wp2_with (first
    | (refine al_pr rfl rfl ?_; intro wj zj bj; have bP3 := below_more bP2 bj; have BJ := below_more BI bj)
    | (refine st_pr rfl rfl rfl rfl zj q4.1 q4.2.1 q4.2.2 ?_; rintro wG rG oG -; have nG := newB bj oG; have G0 := hg.below nG; have Y0 := X0.below nG; have Y1 := X1.below nG; have Y2 := X2.below nG; have Y3 := X3.below nG; have bPG := below_onto bP3 oG bP2.size; have BG := below_onto BJ oG BI.size; have lG := rG.lt; have rP1 := rP.below bPG; have hP1 := hP.below bPG)
    | (refine ld_pr rfl rfl rfl rG ?_)
    | (refine ld_pr rfl rfl rfl rP1 ?_))
  clear zj X0 X1 X2 X3 hg
  go_at_call 9
  refine (eqPair_same _ _ p _ G0.sl hP1).mono ?_
  rintro e e0 ⟨rfl, eb0⟩
  have eG0 := eb0
  have EB0 := below_more BG eb0
  go_wp2_with fail
  go_at_call 12
  refine (to_any _ a _ (hA.below EB0) (by omega)).mono ?_
  rintro e c0 ⟨y0, rfl, yh0, yb0⟩
  have cG0 := below_more eG0 yb0
  go_wp2_with fail
  go_at_call 15
  refine (eq_any _ _ a a _ (Y0.below cG0).sl yh0.sl).mono ?_
  rintro e e1 ⟨rfl, n0, hw0⟩
  have eb1 := drew_below hw0
  clear hw0
  rw [decide_eq_true rfl]
  have eG1 := below_more cG0 eb1
  have EB1 := below_more BG eG1
  clear yh0 yb0 EB0 eG0 cG0 eb0
  go_wp2_with fail
  go_at_call 12
  refine (to_any _ b _ (hB.below EB1) (by omega)).mono ?_
  rintro e c1 ⟨y1, rfl, yh1, yb1⟩
  have cG1 := below_more eG1 yb1
  go_wp2_with fail
  go_at_call 15
  refine (eq_any _ _ b b _ (Y1.below cG1).sl yh1.sl).mono ?_
  rintro e e2 ⟨rfl, n1, hw1⟩
  have eb2 := drew_below hw1
  clear hw1
  rw [decide_eq_true rfl]
  have eG2 := below_more cG1 eb2
  have EB2 := below_more BG eG2
  clear yh1 yb1 EB1 eG1 cG1 eb1
  go_wp2_with fail
  go_at_call 13
  refine (toMsgS_any _ la _ (hK.below EB2) (by omega)).mono ?_
  rintro e c2 ⟨y2, rfl, yh2, yb2⟩
  have cG2 := below_more eG2 yb2
  go_wp2_with fail
  go_at_call 16
  refine (eqMsgS_same _ _ la _ ((Y2.below cG2).sl okM) (yh2.sl okM)).mono ?_
  rintro e e3 ⟨rfl, eb3⟩
  have eG3 := below_more cG2 eb3
  have EB3 := below_more BG eG3
  clear yh2 yb2 EB2 eG2 cG2 eb2
  go_wp2_with fail
  go_at_call 13
  refine (toMsgS_any _ lb _ (hL.below EB3) (by omega)).mono ?_
  rintro e c3 ⟨y3, rfl, yh3, yb3⟩
  have cG3 := below_more eG3 yb3
  go_wp2_with fail
  go_at_call 16
  refine (eqMsgS_same _ _ lb _ ((Y3.below cG3).sl okM) (yh3.sl okM)).mono ?_
  rintro e e4 ⟨rfl, eb4⟩
  have eG4 := below_more cG3 eb4
  have EB4 := below_more BG eG4
  clear yh3 yb3 EB3 eG3 cG3 eb3
  have M00 := Y0.below eG4
  have M01 := Y1.below eG4
  have M02 := Y2.below eG4
  have M03 := Y3.below eG4
  have G1 := G0.below eG4
  have rG1 := rG.below eG4
  have bPe := below_more bPG eG4
  have sG := eG4.size
  have sGi := nG.size
  clear Y0 Y1 Y2 Y3 G0 rG eG4 rP1 hP1
  have T0 : Turn (fun q => wP.heap.size ≤ q ∧ q < x3.heap.size) e4 e4 := Turn.of (Below.refl _ _)
  go_wp2_with fail
  go_at_call 17
  refine (mark_any _ a _ _ (1) M00 (by omega) (by omega)).mono ?_
  rintro e m0 ⟨rfl, -, gw0⟩
  have T1 := T0.trans (Turn.grown gw0 (fun q hq => by have := xl0 q hq; omega))
  have M11 := (Turn.grown (X := fun q => xv0.ownBlock = some q) gw0 (fun q hq => hq)).own M01 (fun q hq e => by have := xl0 q e; have := xl1 q hq; omega)
  have M12 := M02.grown gw0 (fun q e hq => by have := xl0 q e; have := xl2 q hq; omega)
  have M13 := M03.grown gw0 (fun q e hq => by have := xl0 q e; have := xl3 q hq; omega)
  clear T0 gw0 M00 M01 M02 M03
  go_wp2_with fail
  go_at_call 17
  refine (mark_any _ b _ _ (1 + a.length) M11 (by omega) (by omega)).mono ?_
  rintro e m1 ⟨rfl, -, gw1⟩
  have T2 := T1.trans (Turn.grown gw1 (fun q hq => by have := xl1 q hq; omega))
  have M22 := M12.grown gw1 (fun q e hq => by have := xl1 q e; have := xl2 q hq; omega)
  have M23 := M13.grown gw1 (fun q e hq => by have := xl1 q e; have := xl3 q hq; omega)
  clear T1 gw1 M11 M12 M13
  go_wp2_with fail
  go_at_call 18
  refine (markMsgS_any _ la _ _ (1 + a.length + b.length) M22 (by omega) (by omega)).mono ?_
  rintro e m2 ⟨rfl, -, gw2⟩
  have T3 := T2.trans (Turn.grown gw2 (fun q hq => by have := xl2 q hq; omega))
  have M33 := M23.grown gw2 (fun q e hq => by have := xl2 q e; have := xl3 q hq; omega)
  clear T2 gw2 M22 M23
  go_wp2_with fail
  go_at_call 18
  refine (markMsgS_any _ lb _ _ (1 + a.length + b.length + 3 * la.length) M33 (by omega) (by omega)).mono ?_
  rintro e m3 ⟨rfl, -, gw3⟩
  have T4 := T3.trans (Turn.grown gw3 (fun q hq => by have := xl3 q hq; omega))
  clear T3 gw3 M33
  have G2 := G1.keep (fun q h1 h2 => T4.block q (by omega) h2)
  have rG2 := T4.row rG1 (by omega)
  have bP4 := T4.below bPe (fun q hq => hq.1)
  have B4 := below_more BP bP4
  have rP2 := rP.below bP4
  have hP2 := hP.below bP4
  clear G1 rG1 T4 bPe
  go_wp2_with (first
    | (refine ld_prg rfl rfl rfl rG2 ?_)
    | (refine ld_prg rfl rfl rfl rP2 ?_))
  go_at_call 9
  refine (eqPair_same _ _ p _ G2.sl hP2).mono ?_
  rintro e f0 ⟨rfl, fb0⟩
  have G3 := G2.below fb0
  have rG3 := rG2.below fb0
  have bP5 := below_more bP4 fb0
  clear G2 rG2 rP2 hP2
  go_wp2_with (refine ld_pr rfl rfl rfl rG3 ?_)
  go_at_call 19
  refine (markPair_any _ _ _ gx gy gz uM uS uE p _ 1 _ G3 hsz (by omega) (by decide) (by decide) (by decide) (by decide) (by decide) (by decide) (by decide) (by decide) (by decide) (by decide)).mono ?_
  rintro e f1 ⟨rfl, hm, tm⟩
  have rG4 := tm.row rG3 (fun hq => by have := top _ hq.2; omega)
  have bP6 := tm.below bP5 (fun q hq => by have := hq.1; omega)
  clear G3 rG3 bP5 tm
  go_wp2_with (refine ld_pr rfl rfl rfl rG4 ?_)
  go_at_call 20
  refine (heldPair_any _ p 1 _ hm hsz (by omega)).mono ?_
  rintro e f2 ⟨rfl, fb2⟩
  have hm2 := hm.below fb2
  have rG5 := rG4.below fb2
  have bP7 := below_more bP6 fb2
  have B7 := below_more BP bP7
  clear hm rG4
  go_wp2_with fail
  go_at_call 12
  refine (to_any _ a _ (hA.below B7) (by omega)).mono ?_
  rintro e u0 ⟨uv0, rfl, uh0, ub0⟩
  have ul0 := uh0.lt
  have uz0 := ub0.size
  have uB0 := below_more B7 ub0
  go_wp2_with fail
  go_at_call 12
  refine (to_any _ b _ (hB.below uB0) (by omega)).mono ?_
  rintro e u1 ⟨uv1, rfl, uh1, ub1⟩
  have ul1 := uh1.lt
  have uz1 := ub1.size
  have uB1 := below_more uB0 ub1
  go_wp2_with fail
  go_at_call 13
  refine (toMsgS_any _ la _ (hK.below uB1) (by omega)).mono ?_
  rintro e u2 ⟨uv2, rfl, uh2, ub2⟩
  have ul2 := uh2.lt
  have uz2 := ub2.size
  have uB2 := below_more uB1 ub2
  go_wp2_with fail
  go_at_call 13
  refine (toMsgS_any _ lb _ (hL.below uB2) (by omega)).mono ?_
  rintro e u3 ⟨uv3, rfl, uh3, ub3⟩
  have ul3 := uh3.lt
  have uz3 := ub3.size
  have uB3 := below_more uB2 ub3
  have uk2 := ub3
  have uk1 := below_more ub2 ub3
  have uk0 := below_more ub1 uk1
  have uf := below_more ub0 uk0
  go_wp2_with fail
  go_at_call 14
  refine (newPair_implq HQ.out (uh0.below uk0).sl (uh1.below uk1).sl ((uh2.below uk2).sl okM) (uh3.sl okM)).mono ?_
  rintro e wh ⟨hx, hy, hz, vM, vS, vE, rfl, hh, bh⟩
  have h1 := hh.sl
  obtain ⟨_, _, _, hgg, j1, j2, j3⟩ := id h1
  have q5 : hx.oneCell' = true ∧ hy.oneCell' = true ∧ hz.oneCell' = true := by cases hgg; exact ⟨j1.one, j2.one, j3.one⟩
  have uh := below_more uf bh
  clear uh0 uh1 uh2 uh3 uk0 uk1 uk2 uB0 uB1 uB2 hgg j1 j2 j3
  go_wp2_with (first
    | (refine al_pr rfl rfl ?_; intro wk zk bk; have uk := below_more uh bk)
    | (refine st_pr rfl rfl rfl rfl zk q5.1 q5.2.1 q5.2.2 ?_; rintro wH rH oH -; have nH := newB bk oH; have h2 := h1.below nH; have ul := below_onto uk oH uh.size; have bP8 := below_more bP7 ul; have rP3 := rP.below bP8; have hP3 := hP.below bP8)
    | (refine ld_pr rfl rfl rfl rH ?_)
    | (refine ld_pr rfl rfl rfl rP3 ?_))
  clear zk h1 hh
  go_at_call 9
  refine (eqPair_same _ _ p _ h2 hP3).mono ?_
  rintro e f3 ⟨rfl, fb3⟩
  have um := below_more ul fb3
  have hm3 := hm2.below um
  have rG6 := rG5.below um
  have bP9 := below_more bP7 um
  clear hm2 rG5 rH rP3 hP3 h2
  go_wp2_with (refine ld_pr rfl rfl rfl rG6 ?_)
  go_at_call 20
  refine (heldPair_any _ p 1 _ hm3 hsz (by omega)).mono ?_
  rintro e f4 ⟨rfl, fb4⟩
  have B9 := below_more BP (below_more bP9 fb4)
  go_wp2
  go_ret
  exact ⟨rfl, B9⟩
end Go.Proofs.Ytjjafaikaghlgaa.Mem
