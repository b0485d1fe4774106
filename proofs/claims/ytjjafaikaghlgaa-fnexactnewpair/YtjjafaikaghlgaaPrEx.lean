/-
  FnExactPairOk's walk; the region that the laws over a pair share.
-/
import Derived.Test.YtjjafaikaghlgaaPrOk
import Derived.Test.YtjjafaikaghlgaaMcEx
namespace Go.Proofs.Ytjjafaikaghlgaa.Mem
open Go.ChangeShapes Go.WideShapes Go.RowKit Base Num Slc Slf Rw Tmr Reg Ex
set_option linter.unusedVariables false
set_option linter.unusedSimpArgs false
set_option maxRecDepth 20000

/-- The region that holds a pair against a copy of the argument: what is told of each operation. -/
def Tp (s0 : Nat) (p : Pr) (vx va : Value) (j : Nat) (f : Nat → Value) (W : World) : Prop :=
  if j = 0 then f s0 = vx
  else if j = 1 then f (s0 + 1) = va
  else if j = 2 then PSl W (f (s0 + 2)) p
  else if j = 3 then f (s0 + 3) = .bool true
  else if j = 4 then f (s0 + 4) = .bool false
  else True
theorem mono_tp {ops : Array Oper} {s0 : Nat} {p : Pr} {vx va : Value} (hS : supOk ops [[s0], [s0 + 1], [s0 + 2], [s0 + 3], [s0 + 4]] = true) : Mono ops (Tp s0 p vx va) (fun _ W W' => Below W.heap.size W W') := by
  refine mono_sup hS (fun j f f' W hf hT => ?_) (fun i j f W W' hij hT hR => ?_)
  · rcases j with _ | _ | _ | _ | _ | j
    · exact (hf s0 (by simp)).trans hT
    · exact (hf (s0 + 1) (by simp)).trans hT
    · show PSl W (f' (s0 + 2)) p
      rw [hf (s0 + 2) (by simp)]; exact hT
    · exact (hf (s0 + 3) (by simp)).trans hT
    · exact (hf (s0 + 4) (by simp)).trans hT
    · simp [Tp]
  · rcases j with _ | _ | _ | _ | _ | j
    · exact hT
    · exact hT
    · exact PSl.below (show PSl W (f (s0 + 2)) p from hT) hR
    · exact hT
    · exact hT
    · simp [Tp]
/-- What stands while the region runs. -/
structure Gp (w : World) (p : Pr) (g gx : Nat) (ax ay az xx xy xz : Value) (W : World) : Prop where
  arg : Row W g #[ax, ay, az] 26
  x : Row W gx #[xx, xy, xz] 33
  la : LPair W (.agg #[ax, ay, az]) p
  px : PSl W (.agg #[xx, xy, xz]) p
  bel : Below w.heap.size w W
theorem Gp.below {w W W' : World} {p : Pr} {g gx : Nat} {ax ay az xx xy xz : Value} (h : Gp w p g gx ax ay az xx xy xz W) (hb : Below W.heap.size W W') : Gp w p g gx ax ay az xx xy xz W' :=
  ⟨h.arg.below hb, h.x.below hb, h.la.below hb, h.px.below hb, below_more h.bel hb⟩
theorem Gp.drew {w W : World} {p : Pr} {g gx : Nat} {ax ay az xx xy xz : Value} (h : Gp w p g gx ax ay az xx xy xz W) : Gp w p g gx ax ay az xx xy xz W.drew := h.below (drew_below (n := 1) rfl)
section
variable {ops : Array Oper} {rest : List Oper} {o : Oper} {a : Act} {w : World} {Q : Exit → Act → World → Prop} {p q : Operand} {g : Nat} {x y z : Value} {T : TypeId}
theorem ld_lpr (hgd : o.guard = none) (ho : o.op = .load 26 p) (hx : a.eval p = .pointer (some ⟨g, 0, none⟩)) (hr : Row w g #[x, y, z] T) (h : wpList Try.prog ops Q rest (a.put o.dst (.agg #[x, y, z])) w) : wpList Try.prog ops Q (o :: rest) a w :=
  ld_row hgd _ p ho hx hr Try.underlying26 rfl sz_lp h
end
set_option maxRecDepth 20000 in
set_option maxHeartbeats 2000000 in
theorem exPairOk (v0 : Value) (p : Pr) (w : World) (h : LPair w v0 p) :
    Calls Try.prog 3 #[v0] w fun e w' => e = .returned (.bool true) ∧ Below w.heap.size w w' := by
  obtain ⟨ax, ay, az, hvv, i1, i2, i3⟩ := id h
  have o1 := i1.one
  have o2 := i2.one
  have o3 := i3.one
  rw [hvv] at h
  clear i1 i2 i3
  by_cases hsm : (1048576 : Int) < (p.size : Nat)
  · go_enter Try.func3, Try.ntmps3
    go_wp2_with (first
      | (refine box3 rfl rfl hvv o1 o2 o3 sz_lp ?_; intro w0 r0 hB0)
      | (refine ld_lpr rfl rfl rfl r0 ?_)
      | (go_at_call 5; refine (szPair_any _ p _ _ (h.below hB0) (by omega)).mono ?_; rintro e w1 ⟨rfl, hb1⟩; rw [sub_neg (by omega)]; have hB1 := below_more hB0 hb1))
    go_ret
    exact ⟨rfl, hB1⟩
  · have hs2 : p.size ≤ 2000000 := by omega
    go_enter Try.func3, Try.ntmps3
    go_wp2_with (first
      | (refine box3 rfl rfl hvv o1 o2 o3 sz_lp ?_; intro w0 r0 hB0)
      | (refine ld_lpr rfl rfl rfl r0 ?_))
    go_at_call 5
    refine (szPair_any _ p _ _ (h.below hB0) (by omega)).mono ?_
    rintro e w1 ⟨rfl, hb1⟩
    rw [sub_pos (by omega)]
    have r1 := r0.below hb1
    have hB1 := below_more hB0 hb1
    clear r0
    have hz : ¬ (1048576 : Int) - (p.size : Nat) < 0 := by omega
    generalize (1048576 : Int) - (p.size : Nat) = z at hz ⊢
    go_wp2_with (first
      | (refine ld_lpr rfl rfl rfl r1 ?_))
    go_at_call 7
    refine (toPair_any _ p _ (h.below hB1) hs2).mono ?_
    rintro e w2 ⟨v2, rfl, ho2, hb2⟩
    have r2 := r1.below hb2
    have hB2 := below_more hB1 hb2
    clear r1
    go_wp2_with fail
    go_at_call 6
    refine (pairOk_spec _ p _ ho2.sl).mono ?_
    rintro e w3 ⟨rfl, hb3⟩
    have r3 := r2.below hb3
    have hB3 := below_more hB2 hb3
    clear r2 ho2
    go_wp2_with (first
      | (refine ld_lpr rfl rfl rfl r3 ?_))
    go_at_call 7
    refine (toPair_any _ p _ (h.below hB3) hs2).mono ?_
    rintro e w4 ⟨v4, rfl, ho4, hb4⟩
    have r4 := r3.below hb4
    have hB4 := below_more hB3 hb4
    have hp4 := ho4.sl
    obtain ⟨xx, xy, xz, rfl, j1, j2, j3⟩ := id hp4
    have q1 := j1.one
    have q2 := j2.one
    have q3 := j3.one
    clear r3 ho4 j1 j2 j3
    go_wp2_with (first
      | (refine al_pr rfl rfl ?_; intro w5 z5 hB5; have r5 := r4.below hB5; have hC5 := below_more hB4 hB5)
      | (refine st_pr rfl rfl rfl rfl z5 q1 q2 q3 ?_; intro w6 z6 o6 s6; have r6 := r5.onto o6 (by have := r4.lt; omega); have p6 := hp4.below (below_onto hB5 o6 (Nat.le_refl _)); have hB6 := below_onto hC5 o6 (by have := hB4.size; omega))
      | (refine ld_pr rfl rfl rfl z6 ?_))
    go_at_call 8
    refine (pairOk_impl _ p _ p6).mono ?_
    rintro e w7 ⟨rfl, hb7⟩
    have hB7 := below_more hB6 hb7
    have hG : Gp w p w.heap.size w4.heap.size ax ay az xx xy xz w7 := ⟨r6.below hb7, z6.below hb7, h.below hB7, p6.below hb7, hB7⟩
    clear r4 r5 r6 z5 z6 p6 hp4 hB0 hB1 hB2 hB3 hB4 hC5 hB6 hB7
    go_wp2_with fail
    refine region_gen (by kernel_rfl) (by kernel_rfl) (fun W => Gp w p w.heap.size w4.heap.size ax ay az xx xy xz W) (Tp 22 p (.agg #[xx, xy, xz]) (.agg #[ax, ay, az])) (fun _ W W' => Below W.heap.size W W') (mono_tp (by kernel_rfl)) hG.drew ?step ?done
    case step =>
      intro L ix o A W hi hI hL hd
      have hin : ix < 5 := by
        by_cases hl : ix < 5
        · exact hl
        · simp [hl] at hi
      have hsz : A.tmps.size = 27 := hI.size
      have hg := hI.g
      rcases ix with _ | ix
      · cases hi
        have e : A.eval (.tmp 5) = .pointer (some ⟨w4.heap.size, 0, none⟩) := hI.old 5 (by kernel_rfl)
        exact at_op rfl rfl (wp_load_row _ _ rfl _ e _ _ _ _ hg.x.row Try.underlying33 rfl sz_ip ⟨_, rfl, getD_put_same _ _ _ (by omega), hg, Below.refl _ _⟩)
      rcases ix with _ | ix
      · cases hi
        have e : A.eval (.tmp 1) = .pointer (some ⟨w.heap.size, 0, none⟩) := hI.old 1 (by kernel_rfl)
        exact at_op rfl rfl (wp_load_row _ _ rfl _ e _ _ _ _ hg.arg.row Try.underlying26 rfl sz_lp ⟨_, rfl, getD_put_same _ _ _ (by omega), hg, Below.refl _ _⟩)
      rcases ix with _ | ix
      · cases hi
        have e0 : A.eval (.tmp 23) = .agg #[ax, ay, az] := hI.get hd 1 rfl (by kernel_rfl)
        refine at_op rfl rfl (call_op rfl Try.func7 (by kernel_rfl) (by kernel_rfl) ?_)
        simp only [List.map_cons, List.map_nil, e0]
        refine (toPair_any _ p W hg.la hs2).mono ?_
        rintro e w5 ⟨v5, rfl, ho5, hb5⟩
        refine ⟨_, rfl, _, rfl, ?_, hg.below hb5, hb5⟩
        have e' : at_ (A.put (some 24) v5) 24 = v5 := getD_put_same _ _ _ (by omega)
        show PSl w5 (at_ (A.put (some 24) v5) 24) p
        rw [e']; exact ho5.sl
      rcases ix with _ | ix
      · cases hi
        have e0 : A.eval (.tmp 22) = .agg #[xx, xy, xz] := hI.get hd 0 rfl (by kernel_rfl)
        have e1 : PSl W (at_ A 24) p := hI.get hd 2 rfl (by kernel_rfl)
        obtain ⟨u, hu⟩ : ∃ u, at_ A 24 = u := ⟨_, rfl⟩
        rw [hu] at e1
        have e1' : A.eval (.tmp 24) = u := hu
        refine at_op rfl rfl (call_op rfl Try.func9 (by kernel_rfl) (by kernel_rfl) ?_)
        simp only [List.map_cons, List.map_nil, e0, e1']
        refine (eqPair_same _ _ p W hg.px e1).mono ?_
        rintro e w5 ⟨rfl, hb5⟩
        exact ⟨_, rfl, _, rfl, getD_put_same _ _ _ (by omega), hg.below hb5, hb5⟩
      rcases ix with _ | ix
      · cases hi
        have e : A.eval (.tmp 25) = .bool true := hI.get hd 3 rfl (by kernel_rfl)
        refine at_op rfl rfl (val_op (v := .bool false) ?_ ⟨_, rfl, getD_put_same _ _ _ (by omega), hg, Below.refl _ _⟩)
        unfold execOp
        simp only [List.getElem_toArray, List.getElem_cons_zero, List.getElem_cons_succ, e]
        simp [go_sem]
      omega
    case done =>
      intro A W hI
      have hg := hI.g
      have es : A.tmps.getD 26 undef = .bool false := hI.told 4 _ rfl rfl
      have e5 : A.tmps.getD 5 undef = .pointer (some ⟨w4.heap.size, 0, none⟩) := hI.old 5 (by kernel_rfl)
      have e1 : A.tmps.getD 1 undef = .pointer (some ⟨w.heap.size, 0, none⟩) := hI.old 1 (by kernel_rfl)
      have hA := frame_lit A 27 hI.size
      have hde : A.defers = [] := hI.defers
      rw [hde, show List.range 27 = [0, 1, 2, 3, 4, 5, 6, 7, 8, 9, 10, 11, 12, 13, 14, 15, 16, 17, 18, 19, 20, 21, 22, 23, 24, 25, 26] from rfl] at hA
      simp only [List.map_cons, List.map_nil, es, e5, e1] at hA
      rw [hA]
      clear hA es e5 e1 hI hde
      go_wp2
      go_ret
      exact ⟨rfl, hg.bel⟩
end Go.Proofs.Ytjjafaikaghlgaa.Mem
