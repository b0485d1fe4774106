/-
  The exact laws of chapter 12: notes and pipes.
-/
import Derived.Test.YtggfjghcgacdnaaPpLaw
import Derived.Test.YtggfjghcgacdnaaVat
namespace Go.Proofs.Ytggfjghcgacdnaa.Mem
open Go.ChangeShapes Go.WideShapes Go.RowKit Base Num Slc Slf Rw Tmr Reg Ex
set_option linter.unusedVariables false
set_option linter.unusedSimpArgs false
set_option maxRecDepth 20000

theorem exNoteOk (n : Nt) (w : World) : Calls Try.prog 4 #[n.val] w fun e w' => e = .returned (.bool true) ∧ Below w.heap.size w w' := by
  obtain ⟨vv, hvv⟩ : ∃ vv, vv = n.val := ⟨_, rfl⟩
  rw [← hvv]
  have hnn : (n.ok != n.ok) = false := by simp
  generalize hq : n.ok = q at hnn
  have HQ : Hid (n.ok = q) := hq
  clear hq
  go_enter Try.func4, Try.ntmps4
  go_wp2_with (first
    | (refine box_lnt rfl rfl hvv ?_; intro w1 r1 b1)
    | (refine ld_lnt rfl rfl rfl r1 ?_))
  go_at_call 22
  refine (toNote_any n _).mono ?_
  rintro e w2 ⟨rfl, b2⟩
  have r2 : LnRow w2 w.heap.size n := r1.below b2
  have B2 := below_more b1 b2
  go_wp2_with fail
  go_at_call 17
  refine (noteOk_spec n _).mono ?_
  rw [HQ.out]
  rintro e w3 ⟨rfl, b3⟩
  have r3 : LnRow w3 w.heap.size n := r2.below b3
  have B3 := below_more B2 b3
  go_wp2_with (refine ld_lnt rfl rfl rfl r3 ?_)
  go_at_call 22
  refine (toNote_any n _).mono ?_
  rintro e w4 ⟨rfl, b4⟩
  have B4 := below_more B3 b4
  go_wp2_with fail
  go_at_call 16
  refine (noteOk_impl n _).mono ?_
  rw [HQ.out]
  rintro e w5 ⟨rfl, b5⟩
  have B5 := below_more B4 b5
  go_wp2
  go_ret
  exact ⟨rfl, B5⟩
/-- What stands while a pipe is held against a copy of the argument. -/
structure Gpx (w : World) (ga gx : Nat) (c : Int) (u ux : Value) (l : List Nt) (W : World) : Prop where
  arg : Row W ga #[.int .i64 c, u] 52
  x : Row W gx #[.int .i64 c, ux] 26
  la : SlF fLN W u l
  lx : SlF fN W ux l
  bel : Below w.heap.size w W
theorem Gpx.below {w W W' : World} {ga gx : Nat} {c : Int} {u ux : Value} {l : List Nt} (h : Gpx w ga gx c u ux l W) (hb : Below W.heap.size W W') : Gpx w ga gx c u ux l W' :=
  ⟨h.arg.below hb, h.x.below hb, h.la.below hb, h.lx.below hb, below_more h.bel hb⟩
def kPx (c : Int) (u ux : Value) (l : List Nt) : List (Value → World → Prop) :=
  [KIs (.agg #[.int .i64 c, ux]), KIs (.agg #[.int .i64 c, u]), fun v W => ∃ u', v = .agg #[.int .i64 c, u'] ∧ SlF fN W u' l, KIs (.bool true), KIs (.bool false)]
theorem kPx_keep {c : Int} {u ux : Value} {l : List Nt} (j : Nat) (v : Value) (W W' : World) (h : (kPx c u ux l).getD j KAny v W) (hb : Below W.heap.size W W') : (kPx c u ux l).getD j KAny v W' := by
  rcases j with _ | _ | _ | _ | _ | j
  all_goals first | exact h | skip
  obtain ⟨x, e, h1⟩ := h
  exact ⟨x, e, h1.below hb⟩
set_option maxHeartbeats 1000000 in
theorem exPipeOk (v : Value) (p : Pp) (w : World) (h : PpL w v p) : Calls Try.prog 5 #[v] w fun e w' => e = .returned (.bool true) ∧ Below w.heap.size w w' := by
  obtain ⟨u, hvv, hu⟩ := h
  obtain ⟨c, l⟩ := p
  have hu : SlF fLN w u l := hu
  have hvv : v = .agg #[.int .i64 c, u] := hvv
  by_cases hs : (1048576 : Int) < (l.length : Int)
  · go_enter Try.func5, Try.ntmps5
    go_wp2_with (first
      | (refine box_lpp rfl rfl hvv ?_; intro w1 r1 b1)
      | (refine ld_lpp rfl rfl rfl r1 ?_)
      | (go_at_call 23; refine (szPipe_any _ ⟨c, l⟩ _ _ ⟨u, rfl, hu.below b1⟩ (by omega)).mono ?_; rintro e w9 ⟨rfl, b9⟩; rw [if_pos (show (1048576 : Int) < (l.length : Int) by omega)]))
    go_ret
    exact ⟨rfl, below_more b1 b9⟩
  have hn : ¬ (1048576 : Int) - (l.length : Int) < 0 := by omega
  obtain ⟨q, hq⟩ : ∃ q, Pp.ok ⟨c, l⟩ = q := ⟨_, rfl⟩
  have hnn : (q != q) = false := by simp
  have HQ : Hid (Pp.ok ⟨c, l⟩ = q) := hq
  clear hq
  go_enter Try.func5, Try.ntmps5
  go_wp2_with (first
    | (refine box_lpp rfl rfl hvv ?_; intro w1 r1 b1)
    | (refine ld_lpp rfl rfl rfl r1 ?_))
  go_at_call 23
  refine (szPipe_any _ ⟨c, l⟩ _ _ ⟨u, rfl, hu.below b1⟩ (by omega)).mono ?_
  rintro e w2 ⟨rfl, b2⟩
  rw [if_neg (show ¬ (1048576 : Int) < (l.length : Int) by omega)]
  have r2 := r1.below b2
  have B2 := below_more b1 b2
  go_wp2_with (refine ld_lpp rfl rfl rfl r2 ?_)
  go_at_call 24
  refine (toPipe_any _ ⟨c, l⟩ _ ⟨u, rfl, hu.below B2⟩ (by show l.length ≤ 4000000; omega)).mono ?_
  rintro e w3 ⟨u3, rfl, h3, b3⟩
  have r3 := r2.below b3
  have B3 := below_more B2 b3
  have hone3 := h3.one okN
  go_wp2_with fail
  go_at_call 19
  refine (pipeOk_spec _ ⟨c, l⟩ _ ⟨u3, rfl, h3.sl okN⟩).mono ?_
  rw [HQ.out]
  rintro e w4 ⟨rfl, b4⟩
  have r4 := r3.below b4
  have B4 := below_more B3 b4
  go_wp2_with (refine ld_lpp rfl rfl rfl r4 ?_)
  go_at_call 24
  refine (toPipe_any _ ⟨c, l⟩ _ ⟨u, rfl, hu.below B4⟩ (by show l.length ≤ 4000000; omega)).mono ?_
  rintro e w5 ⟨ux, rfl, h5, b5⟩
  have r5 := r4.below b5
  have B5 := below_more B4 b5
  have hone5 := h5.one okN
  have l5 := r5.lt
  go_wp2_with (first
    | (refine al_pp rfl rfl ?_; intro w6 x6 b6; have r6 := r5.below b6; have B6 := below_more B5 b6; have h6 := h5.below b6)
    | (refine st_pp rfl rfl rfl rfl x6 rfl hone5 ?_; rintro w7 x7 o7 -; have r7 := r6.onto o7 (by omega); have B7 := below_onto B6 o7 (by have := B4.size; have := b5.size; omega); have h7 := h6.onto o7 (fun e => by have := (h5.lt _ e).2; omega))
    | (refine ld_pp rfl rfl rfl x7 ?_))
  go_at_call 18
  refine (pipeOk_impl _ ⟨c, l⟩ _ ⟨ux, rfl, h7.sl okN⟩).mono ?_
  rw [HQ.out]
  rintro e w8 ⟨rfl, b8⟩
  have r8 := r7.below b8
  have x8 := x7.below b8
  have h8 := h7.below b8
  have B8 := below_more B7 b8
  go_wp2_with fail
  refine region_km (by kernel_rfl) (by kernel_rfl) (by kernel_rfl) (fun L W => Gpx w8 (w.heap.size) (w5.heap.size) c u ux l W) (fun j => (kPx c u ux l).getD j KAny) (fun L L' W hL h => h) ((show Gpx w8 (w.heap.size) (w5.heap.size) c u ux l w8 from ⟨r8, x8, hu.below B8, h8.sl okN, Below.refl _ _⟩).below (drew_below (n := 1) rfl)) ?step ?done
  case step =>
    intro L ix o A W hi hI hLi hd
    have hin : ix < 5 := by
      by_cases hl : ix < 5
      · exact hl
      · simp [hl] at hi
    have hsz : A.tmps.size = 27 := hI.size
    have hg : Gpx w8 (w.heap.size) (w5.heap.size) c u ux l W := hI.j.1
    rcases ix with _ | _ | _ | _ | _ | ix
    · cases hi
      have e1 : A.eval (.tmp 5) = .pointer (some ⟨w5.heap.size, 0, none⟩) := hI.old 5 (by kernel_rfl)
      exact at_op rfl rfl (wp_load_row _ _ rfl _ e1 _ _ _ _ hg.x.row Try.underlying26 rfl info_pp ⟨_, rfl, hg, fun _ _ h => h, fun _ => rfl⟩)
    · cases hi
      have e1 : A.eval (.tmp 1) = .pointer (some ⟨w.heap.size, 0, none⟩) := hI.old 1 (by kernel_rfl)
      exact at_op rfl rfl (wp_load_row _ _ rfl _ e1 _ _ _ _ hg.arg.row Try.underlying52 rfl info_lpp ⟨_, rfl, hg, fun _ _ h => h, fun _ => rfl⟩)
    · cases hi
      have e1 : A.eval (.tmp 23) = .agg #[.int .i64 c, u] := hI.km hd 1 23 rfl rfl (by kernel_rfl)
      refine at_op rfl rfl (call_op rfl Try.func24 (by kernel_rfl) (by kernel_rfl) ?_)
      simp only [List.map_cons, List.map_nil, e1]
      refine (toPipe_any _ ⟨c, l⟩ _ ⟨u, rfl, hg.la⟩ (by show l.length ≤ 4000000; omega)).mono ?_
      rintro e W1 ⟨u', rfl, ho, hb⟩
      exact ⟨_, rfl, _, rfl, hg.below hb, fun j v h => kPx_keep j v _ _ h hb, fun _ => ⟨u', rfl, ho.sl okN⟩⟩
    · cases hi
      have e1 : A.eval (.tmp 22) = .agg #[.int .i64 c, ux] := hI.km hd 0 22 rfl rfl (by kernel_rfl)
      obtain ⟨u', e2, h2⟩ : ∃ u', A.eval (.tmp 24) = .agg #[.int .i64 c, u'] ∧ SlF fN W u' l := hI.km hd 2 24 rfl rfl (by kernel_rfl)
      refine at_op rfl rfl (call_op rfl Try.func25 (by kernel_rfl) (by kernel_rfl) ?_)
      simp only [List.map_cons, List.map_nil, e1, e2]
      refine (eqPipe_same _ _ ⟨c, l⟩ _ ⟨_, rfl, hg.lx⟩ ⟨_, rfl, h2⟩).mono ?_
      rintro e W1 ⟨rfl, hb⟩
      exact ⟨_, rfl, _, rfl, hg.below hb, fun j v h => kPx_keep j v _ _ h hb, fun _ => rfl⟩
    · cases hi
      have e1 : A.eval (.tmp 25) = .bool true := hI.km hd 3 25 rfl rfl (by kernel_rfl)
      refine at_op rfl rfl (val_op (v := .bool false) ?_ ⟨_, rfl, hg, fun _ _ h => h, fun _ => rfl⟩)
      unfold execOp
      simp only [List.getElem_toArray, List.getElem_cons_zero, List.getElem_cons_succ, e1]
      simp [go_sem]
    · omega
  case done =>
    intro A W10 hI hS
    have hg10 : Gpx w8 (w.heap.size) (w5.heap.size) c u ux l W10 := hS
    have e4 : A.tmps.getD 26 undef = .bool false := hI.kml 4 26 rfl
    have hA := hI.frame [22, 23, 24, 25, 26] (by kernel_rfl)
    rw [hA]
    simp only [putAll, List.foldl_cons, List.foldl_nil, e4, Act.put, List.setIfInBounds_toArray, List.set_cons_zero, List.set_cons_succ]
    clear hA hI e4
    go_wp2
    go_ret
    exact ⟨rfl, below_more B8 hg10.bel⟩
theorem markPipe_z (B : TypeId) (c : Int) (u : Value) (l : List Nt) (z : Nat) (w : World) (base : Nat) (h : OwnA B fN base w u l) (hb : l.length ≤ 4000000) (hz : z = 1 + 5 * l.length) (hbw : base ≤ w.heap.size) :
    Calls Try.prog 26 #[.agg #[.int .i64 c, u], .int .i64 1] w fun e w' => e = .returned (.int .i64 (z : Int)) ∧ OwnA B fN base w' u (marksN 1 l.length) ∧ w.grownBy w' u.ownBlock := by
  subst hz
  exact markPipe_any B c u l w base 1 h hb (by omega) hbw
theorem heldPipe_z (c : Int) (u : Value) (n z : Nat) (w : World) (h : SlF fN w u (marksN 1 n)) (hb : n ≤ 4000000) (hz : z = 1 + 5 * n) :
    Calls Try.prog 27 #[.agg #[.int .i64 c, u], .int .i64 1] w fun e w' => e = .returned (.int .i64 (z : Int)) ∧ Below w.heap.size w w' := by
  subst hz
  exact heldPipe_any c u n w 1 h hb (by omega)
/-- A pipe in a block, by a guarded operation. -/
theorem ld_ppg {ops : Array Oper} {rest : List Oper} {o : Oper} {a : Act} {w : World} {Q : Exit → Act → World → Prop} {p : Operand} {g : Nat} {x y : Value} {T : TypeId} (hw : Region.wanted o (yielded ops a.tmps) = true) (ho : o.op = .load 26 p) (hx : a.eval p = .pointer (some ⟨g, 0, none⟩)) (hr : Row w g #[x, y] T)
    (h : wpList Try.prog ops Q rest (a.put o.dst (.agg #[x, y])) w) : wpList Try.prog ops Q (o :: rest) a w :=
  wpList_step fun K hK => by
    rw [if_pos hw]
    exact wp_load_row _ _ ho _ hx _ _ _ _ hr.row Try.underlying26 rfl info_pp (hK _ _ h)
theorem pipeFirst_specq {v : Value} {p P : Pp} {n : Nt} {b : Bool} {w : World} (hq : pipeFirst p = (P, n, b)) (h : PpSl w v p) :
    Calls Try.prog 14 #[v] w fun e w' => ∃ u', e = .returned (.tuple #[.agg #[.int .i64 P.c, u'], n.val, .bool b]) ∧ OwnA fN.T fN w.heap.size w' u' P.l ∧ Below w.heap.size w w' := by
  have := pipeFirst_spec v p w h
  rw [hq] at this
  refine this.mono ?_
  rintro e w' ⟨_, rfl, ⟨u', rfl, ho⟩, hb⟩
  exact ⟨u', rfl, ho, hb⟩
theorem pipeFirst_implq {v : Value} {p P : Pp} {n : Nt} {b : Bool} {w : World} (hq : pipeFirst p = (P, n, b)) (h : PpSl w v p) :
    Calls Try.prog 13 #[v] w fun e w' => ∃ u', e = .returned (.tuple #[.agg #[.int .i64 P.c, u'], n.val, .bool b]) ∧ OwnA 83 fN w.heap.size w' u' P.l ∧ Below w.heap.size w w' := by
  have := pipeFirst_impl v p w h
  rw [hq] at this
  refine this.mono ?_
  rintro e w' ⟨_, rfl, ⟨u', rfl, ho⟩, hb⟩
  exact ⟨u', rfl, ho, hb⟩
theorem pipeFirst_len {p P : Pp} {n : Nt} {b : Bool} (hq : pipeFirst p = (P, n, b)) : P.l.length ≤ p.l.length := by
  unfold pipeFirst at hq
  split at hq
  · split at hq
    · cases hq; exact Nat.le_refl _
    · cases hq; rename_i e; rw [e]; simp
  · cases hq; exact Nat.zero_le _
set_option maxHeartbeats 4000000 in
theorem exPipeFirst (v : Value) (p : Pp) (w : World) (h : PpL w v p) : Calls Try.prog 7 #[v] w fun e w' => e = .returned (.bool true) ∧ Below w.heap.size w w' := by
  obtain ⟨u, hvv, hu⟩ := h
  obtain ⟨c, l⟩ := p
  have hu : SlF fLN w u l := hu
  have hvv : v = .agg #[.int .i64 c, u] := hvv
  by_cases hs : (1048576 : Int) < (l.length : Int)
  · go_enter Try.func7, Try.ntmps7
    go_wp2_with (first
      | (refine box_lpp rfl rfl hvv ?_; intro w1 r1 b1)
      | (refine ld_lpp rfl rfl rfl r1 ?_)
      | (go_at_call 23; refine (szPipe_any _ ⟨c, l⟩ _ _ ⟨u, rfl, hu.below b1⟩ (by omega)).mono ?_; rintro e w9 ⟨rfl, b9⟩; rw [if_pos (show (1048576 : Int) < (l.length : Int) by omega)]))
    go_ret
    exact ⟨rfl, below_more b1 b9⟩
  have hn : ¬ (1048576 : Int) - (l.length : Int) < 0 := by omega
  obtain ⟨P, nn, bb, hq⟩ : ∃ P nn bb, pipeFirst ⟨c, l⟩ = (P, nn, bb) := ⟨_, _, _, rfl⟩
  have hlP : P.l.length ≤ l.length := pipeFirst_len hq
  obtain ⟨C, LL⟩ := P
  have hlP : LL.length ≤ l.length := hlP
  have hnn : (bb != bb) = false := by simp
  have HQ : Hid (pipeFirst ⟨c, l⟩ = (⟨C, LL⟩, nn, bb)) := hq
  clear hq
  obtain ⟨zx, HZX⟩ : ∃ zx : Nat, Hid (zx = 1 + 5 * l.length) := ⟨_, show _ = _ from rfl⟩
  obtain ⟨zg, HZG⟩ : ∃ zg : Nat, Hid (zg = 1 + 5 * LL.length) := ⟨_, show _ = _ from rfl⟩
  have nx : ¬ (zx : Int) < 0 := by omega
  have ng : ¬ (zg : Int) < 0 := by omega
  have ngg : ((zg : Int) != (zg : Int)) = false := by simp
  go_enter Try.func7, Try.ntmps7
  go_wp2_with (first
    | (refine box_lpp rfl rfl hvv ?_; intro w1 r1 b1; have z1 := b1.size)
    | (refine ld_lpp rfl rfl rfl r1 ?_))
  go_at_call 23
  refine (szPipe_any _ ⟨c, l⟩ _ _ ⟨u, rfl, hu.below b1⟩ (by omega)).mono ?_
  rintro e w11 ⟨rfl, b11⟩
  have A11 := r1.below b11
  have B11 := below_more b1 b11
  have z11 := b11.size
  rw [if_neg (show ¬ (1048576 : Int) < (l.length : Int) by omega)]
  go_wp2_with (first
    | (refine ld_lpp rfl rfl rfl A11 ?_))
  go_at_call 24
  refine (toPipe_any _ ⟨c, l⟩ _ ⟨u, rfl, hu.below B11⟩ (by show l.length ≤ 4000000; omega)).mono ?_
  rintro e w12 ⟨u12, rfl, h12, b12⟩
  have A12 := A11.below b12
  have B12 := below_more B11 b12
  have z12 := b12.size
  have i12 := h12.one okN
  go_wp2_with fail
  go_at_call 14
  refine (pipeFirst_specq HQ.out ⟨_, rfl, h12.sl okN⟩).mono ?_
  rintro e w13 ⟨us, rfl, hS, b13⟩
  have A13 := A12.below b13
  have B13 := below_more B12 b13
  have z13 := b13.size
  have oneS := hS.one okN
  have SL := hS.lt
  go_wp2_with (first
    | (refine al_pp rfl rfl ?_; intro w14 v14 b14; have A14 := A13.below b14; have S14 := hS.below b14; have B14 := below_more B13 b14; have y14 := v14.lt; have z14 := b14.size)
    | (refine al_nt rfl rfl ?_; intro w15 m15 b15; have A15 := A14.below b15; have S15 := S14.below b15; have B15 := below_more B14 b15; have v15 := v14.below b15; have y15 := m15.lt; have z15 := b15.size)
    | (refine st_pp rfl rfl rfl rfl v15 rfl oneS ?_; rintro w16 P16 o16 -; have A16 := A15.onto o16 (by have := A13.lt; omega); have S16 := S15.onto o16 (fun e => by have := (hS.lt _ e).2; omega); have B16 := below_onto B15 o16 (by omega); have z16 := o16.size; have m16 := m15.onto o16 (by omega))
    | (refine st_nt (n := nn) rfl rfl rfl rfl m16 ?_; rintro w17 N17 o17 -; have A17 := A16.onto o17 (by have := A13.lt; omega); have S17 := S16.onto o17 (fun e => by have := (hS.lt _ e).2; omega); have B17 := below_onto B16 o17 (by omega); have z17 := o17.size; have P17 := P16.onto o17 (by omega))
    | (refine ld_lpp rfl rfl rfl A17 ?_))
  go_at_call 24
  refine (toPipe_any _ ⟨c, l⟩ _ ⟨u, rfl, hu.below B17⟩ (by show l.length ≤ 4000000; omega)).mono ?_
  rintro e w18 ⟨u18, rfl, h18, b18⟩
  have A18 := A17.below b18
  have S18 := S17.below b18
  have P18 := P17.below b18
  have N18 := N17.below b18
  have B18 := below_more B17 b18
  have z18 := b18.size
  have i18 := h18.one okN
  have XL := h18.lt
  go_wp2_with (first
    | (refine al_pp rfl rfl ?_; intro w19 v19 b19; have A19 := A18.below b19; have S19 := S18.below b19; have P19 := P18.below b19; have N19 := N18.below b19; have X19 := h18.below b19; have B19 := below_more B18 b19; have y19 := v19.lt; have z19 := b19.size)
    | (refine st_pp rfl rfl rfl rfl v19 rfl i18 ?_; rintro w20 x20 o20 -; have A20 := A19.onto o20 (by have := A18.lt; omega); have S20 := S19.onto o20 (fun e => by have := (S18.lt _ e).2; omega); have P20 := P19.onto o20 (by have := P18.lt; omega); have N20 := N19.onto o20 (by have := N18.lt; omega); have X20 := X19.onto o20 (fun e => by have := (h18.lt _ e).2; omega); have B20 := below_onto B19 o20 (by omega); have z20 := o20.size)
    | (refine ld_ppg rfl rfl rfl x20 ?_))
  go_at_call 13
  refine (pipeFirst_implq HQ.out ⟨_, rfl, X20.sl okN⟩).mono ?_
  rintro e w21 ⟨ug, rfl, hG, b21⟩
  have A21 := A20.below b21
  have S21 := S20.below b21
  have P21 := P20.below b21
  have N21 := N20.below b21
  have X21 := X20.below b21
  have x21 := x20.below b21
  have B21 := below_more B20 b21
  have z21 := b21.size
  have oneG := hG.one okN
  have GL := hG.lt
  go_wp2_with (first
    | (refine al_pp rfl rfl ?_; intro w22 v22 b22; have A22 := A21.below b22; have S22 := S21.below b22; have P22 := P21.below b22; have N22 := N21.below b22; have X22 := X21.below b22; have x22 := x21.below b22; have G22 := hG.below b22; have B22 := below_more B21 b22; have y22 := v22.lt; have z22 := b22.size)
    | (refine al_nt rfl rfl ?_; intro w23 m23 b23; have A23 := A22.below b23; have S23 := S22.below b23; have P23 := P22.below b23; have N23 := N22.below b23; have X23 := X22.below b23; have x23 := x22.below b23; have G23 := G22.below b23; have B23 := below_more B22 b23; have v23 := v22.below b23; have y23 := m23.lt; have z23 := b23.size)
    | (refine st_pp rfl rfl rfl rfl v23 rfl oneG ?_; rintro w24 g24 o24 -; have A24 := A23.onto o24 (by have := A21.lt; omega); have S24 := S23.onto o24 (fun e => by have := (S21.lt _ e).2; omega); have P24 := P23.onto o24 (by have := P21.lt; omega); have N24 := N23.onto o24 (by have := N21.lt; omega); have X24 := X23.onto o24 (fun e => by have := (X21.lt _ e).2; omega); have x24 := x23.onto o24 (by have := x21.lt; omega); have G24 := G23.onto o24 (fun e => by have := (hG.lt _ e).2; omega); have B24 := below_onto B23 o24 (by omega); have z24 := o24.size; have m24 := m23.onto o24 (by omega))
    | (refine st_nt (n := nn) rfl rfl rfl rfl m24 ?_; rintro w25 M25 o25 -; have A25 := A24.onto o25 (by have := A21.lt; omega); have S25 := S24.onto o25 (fun e => by have := (S21.lt _ e).2; omega); have P25 := P24.onto o25 (by have := P21.lt; omega); have N25 := N24.onto o25 (by have := N21.lt; omega); have X25 := X24.onto o25 (fun e => by have := (X21.lt _ e).2; omega); have x25 := x24.onto o25 (by have := x21.lt; omega); have G25 := G24.onto o25 (fun e => by have := (hG.lt _ e).2; omega); have B25 := below_onto B24 o25 (by omega); have z25 := o25.size; have g25 := g24.onto o25 (by omega))
    | (refine ld_ppg rfl rfl rfl g25 ?_)
    | (refine ld_ppg rfl rfl rfl P25 ?_))
  go_at_call 25
  refine (eqPipe_same _ _ ⟨C, LL⟩ _ ⟨_, rfl, G25.sl okN⟩ ⟨_, rfl, S25.sl okN⟩).mono ?_
  rintro e w26 ⟨rfl, b26⟩
  have A26 := A25.below b26
  have S26 := S25.below b26
  have P26 := P25.below b26
  have N26 := N25.below b26
  have X26 := X25.below b26
  have x26 := x25.below b26
  have G26 := G25.below b26
  have g26 := g25.below b26
  have M26 := M25.below b26
  have B26 := below_more B25 b26
  have z26 := b26.size
  go_wp2_with (first
    | (refine ld_ntg rfl rfl rfl M26 ?_)
    | (refine ld_ntg rfl rfl rfl N26 ?_))
  go_at_call 28
  refine (eqNote_same nn _).mono ?_
  rintro e w27 ⟨rfl, b27⟩
  have A27 := A26.below b27
  have S27 := S26.below b27
  have P27 := P26.below b27
  have N27 := N26.below b27
  have X27 := X26.below b27
  have x27 := x26.below b27
  have G27 := G26.below b27
  have g27 := g26.below b27
  have M27 := M26.below b27
  have B27 := below_more B26 b27
  have z27 := b27.size
  go_wp2_with fail
  refine region_km (by kernel_rfl) (by kernel_rfl) (by kernel_rfl) (fun L W => Gpx w27 (w.heap.size) (w18.heap.size) c u u18 l W) (fun j => (kPx c u u18 l).getD j KAny) (fun L L' W hL h => h) ((show Gpx w27 (w.heap.size) (w18.heap.size) c u u18 l w27 from ⟨A27, x27, hu.below B27, X27.sl okN, Below.refl _ _⟩).below (drew_below (n := 1) rfl)) ?step ?done
  case step =>
    intro L ix o A W hi hI hLi hd
    have hin : ix < 5 := by
      by_cases hl : ix < 5
      · exact hl
      · simp [hl] at hi
    have hsz : A.tmps.size = 120 := hI.size
    have hg : Gpx w27 (w.heap.size) (w18.heap.size) c u u18 l W := hI.j.1
    rcases ix with _ | _ | _ | _ | _ | ix
    · cases hi
      have e1 : A.eval (.tmp 7) = .pointer (some ⟨w18.heap.size, 0, none⟩) := hI.old 7 (by kernel_rfl)
      exact at_op rfl rfl (wp_load_row _ _ rfl _ e1 _ _ _ _ hg.x.row Try.underlying26 rfl info_pp ⟨_, rfl, hg, fun _ _ h => h, fun _ => rfl⟩)
    · cases hi
      have e1 : A.eval (.tmp 1) = .pointer (some ⟨w.heap.size, 0, none⟩) := hI.old 1 (by kernel_rfl)
      exact at_op rfl rfl (wp_load_row _ _ rfl _ e1 _ _ _ _ hg.arg.row Try.underlying52 rfl info_lpp ⟨_, rfl, hg, fun _ _ h => h, fun _ => rfl⟩)
    · cases hi
      have e1 : A.eval (.tmp 53) = .agg #[.int .i64 c, u] := hI.km hd 1 53 rfl rfl (by kernel_rfl)
      refine at_op rfl rfl (call_op rfl Try.func24 (by kernel_rfl) (by kernel_rfl) ?_)
      simp only [List.map_cons, List.map_nil, e1]
      refine (toPipe_any _ ⟨c, l⟩ _ ⟨u, rfl, hg.la⟩ (by show l.length ≤ 4000000; omega)).mono ?_
      rintro e W1 ⟨u', rfl, ho, hb⟩
      exact ⟨_, rfl, _, rfl, hg.below hb, fun j v h => kPx_keep j v _ _ h hb, fun _ => ⟨u', rfl, ho.sl okN⟩⟩
    · cases hi
      have e1 : A.eval (.tmp 52) = .agg #[.int .i64 c, u18] := hI.km hd 0 52 rfl rfl (by kernel_rfl)
      obtain ⟨u', e2, h2⟩ : ∃ u', A.eval (.tmp 54) = .agg #[.int .i64 c, u'] ∧ SlF fN W u' l := hI.km hd 2 54 rfl rfl (by kernel_rfl)
      refine at_op rfl rfl (call_op rfl Try.func25 (by kernel_rfl) (by kernel_rfl) ?_)
      simp only [List.map_cons, List.map_nil, e1, e2]
      refine (eqPipe_same _ _ ⟨c, l⟩ _ ⟨_, rfl, hg.lx⟩ ⟨_, rfl, h2⟩).mono ?_
      rintro e W1 ⟨rfl, hb⟩
      exact ⟨_, rfl, _, rfl, hg.below hb, fun j v h => kPx_keep j v _ _ h hb, fun _ => rfl⟩
    · cases hi
      have e1 : A.eval (.tmp 55) = .bool true := hI.km hd 3 55 rfl rfl (by kernel_rfl)
      refine at_op rfl rfl (val_op (v := .bool false) ?_ ⟨_, rfl, hg, fun _ _ h => h, fun _ => rfl⟩)
      unfold execOp
      simp only [List.getElem_toArray, List.getElem_cons_zero, List.getElem_cons_succ, e1]
      simp [go_sem]
    · omega
  case done =>
    intro A W10 hI hS
    have hg10 : Gpx w27 (w.heap.size) (w18.heap.size) c u u18 l W10 := hS
    have e4 : A.tmps.getD 56 undef = .bool false := hI.kml 4 56 rfl
    have hA := hI.frame [52, 53, 54, 55, 56] (by kernel_rfl)
    rw [hA]
    simp only [putAll, List.foldl_cons, List.foldl_nil, e4, Act.put, List.setIfInBounds_toArray, List.set_cons_zero, List.set_cons_succ]
    clear hA hI e4
    have bel10 := hg10.bel
    have A900 := A27.below bel10
    have S900 := S27.below bel10
    have P900 := P27.below bel10
    have N900 := N27.below bel10
    have X900 := X27.below bel10
    have x900 := x27.below bel10
    have G900 := G27.below bel10
    have g900 := g27.below bel10
    have M900 := M27.below bel10
    have B900 := below_more B27 bel10
    have z900 := bel10.size
    clear hg10
    go_wp2_with (first
      | (refine ld_ppg rfl rfl rfl x900 ?_))
    go_at_call 26
    refine (markPipe_z fN.T c u18 l zx W10 _ X900.toA (by omega) HZX.out (by have := XL; omega)).mono ?_
    rintro e w902 ⟨rfl, q902, t902⟩
    have A902 := A900.keep (t902.block _ A900.lt (fun e => by have := XL _ e.symm; omega))
    have S902 := S900.grown t902 (fun k hk e => by have := XL k hk; have := SL k e; omega)
    have P902 := P900.keep (t902.block _ P900.lt (fun e => by have := XL _ e.symm; omega))
    have N902 := N900.keep (t902.block _ N900.lt (fun e => by have := XL _ e.symm; omega))
    have x902 := x900.keep (t902.block _ x900.lt (fun e => by have := XL _ e.symm; omega))
    have G902 := G900.grown t902 (fun k hk e => by have := XL k hk; have := GL k e; omega)
    have g902 := g900.keep (t902.block _ g900.lt (fun e => by have := XL _ e.symm; omega))
    have M902 := M900.keep (t902.block _ M900.lt (fun e => by have := XL _ e.symm; omega))
    have B902 := B900.grown t902 B900.size (fun k hk => by have := XL k hk; omega)
    have z902 := t902.size
    go_wp2_with (first
      | (refine ld_ppg rfl rfl rfl g902 ?_)
      | (refine ld_ppg rfl rfl rfl P902 ?_))
    go_at_call 25
    refine (eqPipe_same _ _ ⟨C, LL⟩ _ ⟨_, rfl, G902.sl okN⟩ ⟨_, rfl, S902.sl okN⟩).mono ?_
    rintro e w903 ⟨rfl, b903⟩
    have A903 := A902.below b903
    have S903 := S902.below b903
    have P903 := P902.below b903
    have N903 := N902.below b903
    have x903 := x902.below b903
    have G903 := G902.below b903
    have g903 := g902.below b903
    have M903 := M902.below b903
    have B903 := below_more B902 b903
    have z903 := b903.size
    go_wp2_with (first
      | (refine ld_ntg rfl rfl rfl M903 ?_)
      | (refine ld_ntg rfl rfl rfl N903 ?_))
    go_at_call 28
    refine (eqNote_same nn _).mono ?_
    rintro e w904 ⟨rfl, b904⟩
    have A904 := A903.below b904
    have S904 := S903.below b904
    have P904 := P903.below b904
    have N904 := N903.below b904
    have x904 := x903.below b904
    have G904 := G903.below b904
    have g904 := g903.below b904
    have M904 := M903.below b904
    have B904 := below_more B903 b904
    have z904 := b904.size
    go_wp2_with (first
      | (refine ld_ppg rfl rfl rfl g904 ?_))
    go_at_call 26
    refine (markPipe_z 83 C ug LL zg w904 _ G904 (by omega) HZG.out (by omega)).mono ?_
    rintro e w905 ⟨rfl, q905, t905⟩
    have A905 := A904.keep (t905.block _ A904.lt (fun e => by have := GL _ e.symm; omega))
    have S905 := S904.grown t905 (fun k hk e => by have := GL k hk; have := SL k e; omega)
    have P905 := P904.keep (t905.block _ P904.lt (fun e => by have := GL _ e.symm; omega))
    have N905 := N904.keep (t905.block _ N904.lt (fun e => by have := GL _ e.symm; omega))
    have x905 := x904.keep (t905.block _ x904.lt (fun e => by have := GL _ e.symm; omega))
    have g905 := g904.keep (t905.block _ g904.lt (fun e => by have := GL _ e.symm; omega))
    have M905 := M904.keep (t905.block _ M904.lt (fun e => by have := GL _ e.symm; omega))
    have B905 := B904.grown t905 B904.size (fun k hk => by have := GL k hk; omega)
    have z905 := t905.size
    go_wp2_with (first
      | (refine ld_ppg rfl rfl rfl g905 ?_))
    go_at_call 27
    refine (heldPipe_z C ug LL.length zg _ (q905.sl okN) (by omega) HZG.out).mono ?_
    rintro e w906 ⟨rfl, b906⟩
    have A906 := A905.below b906
    have S906 := S905.below b906
    have P906 := P905.below b906
    have N906 := N905.below b906
    have x906 := x905.below b906
    have G906 := q905.below b906
    have g906 := g905.below b906
    have M906 := M905.below b906
    have B906 := below_more B905 b906
    have z906 := b906.size
    go_wp2_with (first
      | (refine ld_lpp rfl rfl rfl A906 ?_))
    go_at_call 24
    refine (toPipe_any _ ⟨c, l⟩ _ ⟨u, rfl, hu.below B906⟩ (by show l.length ≤ 4000000; omega)).mono ?_
    rintro e w907 ⟨u907, rfl, h907, b907⟩
    have A907 := A906.below b907
    have S907 := S906.below b907
    have P907 := P906.below b907
    have N907 := N906.below b907
    have x907 := x906.below b907
    have G907 := G906.below b907
    have g907 := g906.below b907
    have M907 := M906.below b907
    have B907 := below_more B906 b907
    have z907 := b907.size
    have i907 := h907.one okN
    go_wp2_with fail
    go_at_call 13
    refine (pipeFirst_implq HQ.out ⟨_, rfl, h907.sl okN⟩).mono ?_
    rintro e w908 ⟨uh, rfl, hH, b908⟩
    have A908 := A907.below b908
    have S908 := S907.below b908
    have P908 := P907.below b908
    have N908 := N907.below b908
    have x908 := x907.below b908
    have G908 := G907.below b908
    have g908 := g907.below b908
    have M908 := M907.below b908
    have B908 := below_more B907 b908
    have z908 := b908.size
    have oneH := hH.one okN
    have HL := hH.lt
    go_wp2_with (first
      | (refine al_pp rfl rfl ?_; intro w909 v909 b909; have A909 := A908.below b909; have S909 := S908.below b909; have P909 := P908.below b909; have N909 := N908.below b909; have x909 := x908.below b909; have G909 := G908.below b909; have g909 := g908.below b909; have M909 := M908.below b909; have H909 := hH.below b909; have B909 := below_more B908 b909; have y909 := v909.lt; have z909 := b909.size)
      | (refine al_nt rfl rfl ?_; intro w910 m910 b910; have A910 := A909.below b910; have S910 := S909.below b910; have P910 := P909.below b910; have N910 := N909.below b910; have x910 := x909.below b910; have G910 := G909.below b910; have g910 := g909.below b910; have M910 := M909.below b910; have H910 := H909.below b910; have B910 := below_more B909 b910; have v910 := v909.below b910; have y910 := m910.lt; have z910 := b910.size)
      | (refine st_pp rfl rfl rfl rfl v910 rfl oneH ?_; rintro w911 h911 o911 -; have A911 := A910.onto o911 (by have := A908.lt; omega); have S911 := S910.onto o911 (fun e => by have := (S908.lt _ e).2; omega); have P911 := P910.onto o911 (by have := P908.lt; omega); have N911 := N910.onto o911 (by have := N908.lt; omega); have x911 := x910.onto o911 (by have := x908.lt; omega); have G911 := G910.onto o911 (fun e => by have := (G908.lt _ e).2; omega); have g911 := g910.onto o911 (by have := g908.lt; omega); have M911 := M910.onto o911 (by have := M908.lt; omega); have H911 := H910.onto o911 (fun e => by have := (hH.lt _ e).2; omega); have B911 := below_onto B910 o911 (by omega); have z911 := o911.size; have m911 := m910.onto o911 (by omega))
      | (refine st_nt (n := nn) rfl rfl rfl rfl m911 ?_; rintro w912 K912 o912 -; have A912 := A911.onto o912 (by have := A908.lt; omega); have S912 := S911.onto o912 (fun e => by have := (S908.lt _ e).2; omega); have P912 := P911.onto o912 (by have := P908.lt; omega); have N912 := N911.onto o912 (by have := N908.lt; omega); have x912 := x911.onto o912 (by have := x908.lt; omega); have G912 := G911.onto o912 (fun e => by have := (G908.lt _ e).2; omega); have g912 := g911.onto o912 (by have := g908.lt; omega); have M912 := M911.onto o912 (by have := M908.lt; omega); have H912 := H911.onto o912 (fun e => by have := (hH.lt _ e).2; omega); have B912 := below_onto B911 o912 (by omega); have z912 := o912.size; have h912 := h911.onto o912 (by omega))
      | (refine ld_ppg rfl rfl rfl h912 ?_)
      | (refine ld_ppg rfl rfl rfl P912 ?_))
    go_at_call 25
    refine (eqPipe_same _ _ ⟨C, LL⟩ _ ⟨_, rfl, H912.sl okN⟩ ⟨_, rfl, S912.sl okN⟩).mono ?_
    rintro e w913 ⟨rfl, b913⟩
    have A913 := A912.below b913
    have S913 := S912.below b913
    have P913 := P912.below b913
    have N913 := N912.below b913
    have x913 := x912.below b913
    have G913 := G912.below b913
    have g913 := g912.below b913
    have M913 := M912.below b913
    have H913 := H912.below b913
    have h913 := h912.below b913
    have K913 := K912.below b913
    have B913 := below_more B912 b913
    have z913 := b913.size
    go_wp2_with (first
      | (refine ld_ntg rfl rfl rfl K913 ?_)
      | (refine ld_ntg rfl rfl rfl N913 ?_))
    go_at_call 28
    refine (eqNote_same nn _).mono ?_
    rintro e w914 ⟨rfl, b914⟩
    have A914 := A913.below b914
    have S914 := S913.below b914
    have P914 := P913.below b914
    have N914 := N913.below b914
    have x914 := x913.below b914
    have G914 := G913.below b914
    have g914 := g913.below b914
    have M914 := M913.below b914
    have H914 := H913.below b914
    have h914 := h913.below b914
    have K914 := K913.below b914
    have B914 := below_more B913 b914
    have z914 := b914.size
    go_wp2_with (first
      | (refine ld_ppg rfl rfl rfl g914 ?_))
    go_at_call 27
    refine (heldPipe_z C ug LL.length zg _ (G914.sl okN) (by omega) HZG.out).mono ?_
    rintro e w915 ⟨rfl, b915⟩
    have A915 := A914.below b915
    have S915 := S914.below b915
    have P915 := P914.below b915
    have N915 := N914.below b915
    have x915 := x914.below b915
    have G915 := G914.below b915
    have g915 := g914.below b915
    have M915 := M914.below b915
    have H915 := H914.below b915
    have h915 := h914.below b915
    have K915 := K914.below b915
    have B915 := below_more B914 b915
    have z915 := b915.size
    go_wp2
    go_ret
    exact ⟨rfl, B915⟩
/-- What is told of the operations that make a variable of a pipe that a call hands back. -/
def KOf (c : Int) (n0 : Nat) (l : List Nt) (v : Value) (W : World) : Prop := ∃ u', v = .agg #[.int .i64 c, u'] ∧ OwnF fN n0 W u' l
def KTp (B : TypeId) (c : Int) (n0 : Nat) (l : List Nt) (b : Bool) (v : Value) (W : World) : Prop := ∃ u', v = .tuple #[.agg #[.int .i64 c, u'], .bool b] ∧ OwnA B fN n0 W u' l
def KPo (B : TypeId) (c : Int) (n0 : Nat) (l : List Nt) (v : Value) (W : World) : Prop := ∃ u', v = .agg #[.int .i64 c, u'] ∧ OwnA B fN n0 W u' l
theorem keeps_of (c : Int) (n0 : Nat) (l : List Nt) : Keeps 26 (KOf c n0 l) :=
  ⟨fun v W W' h hb => by obtain ⟨u', e, h1⟩ := h; exact ⟨u', e, h1.below hb⟩, fun v W W' g cs h hr ho => by obtain ⟨u', e, h1⟩ := h; exact ⟨u', e, h1.onto ho (h1.not_row hr (by decide))⟩⟩
theorem keeps_tp (B : TypeId) (hB : 26 ≠ B) (c : Int) (n0 : Nat) (l : List Nt) (b : Bool) : Keeps 26 (KTp B c n0 l b) :=
  ⟨fun v W W' h hb => by obtain ⟨u', e, h1⟩ := h; exact ⟨u', e, h1.below hb⟩, fun v W W' g cs h hr ho => by obtain ⟨u', e, h1⟩ := h; exact ⟨u', e, h1.onto ho (h1.not_row hr hB)⟩⟩
theorem keeps_po (B : TypeId) (hB : 26 ≠ B) (c : Int) (n0 : Nat) (l : List Nt) : Keeps 26 (KPo B c n0 l) :=
  ⟨fun v W W' h hb => by obtain ⟨u', e, h1⟩ := h; exact ⟨u', e, h1.below hb⟩, fun v W W' g cs h hr ho => by obtain ⟨u', e, h1⟩ := h; exact ⟨u', e, h1.onto ho (h1.not_row hr hB)⟩⟩
theorem alv_op {ops : Array Oper} {o : Oper} {A : Act} {w : World} {K : Act → World → Prop} {Q : Exit → Act → World → Prop} (ho : o.op = .alloc 26) (h : K (A.put o.dst (.pointer (some ⟨w.heap.size, 0, none⟩))) (w.alloc (.cells #[.int .i64 0, .slice none 0 0] 26))) : o.wp Try.prog A w K Q := by
  have e : (execOp A.eval o).run Try.prog w = .ok (.value (.pointer (some ⟨w.heap.size, 0, none⟩))) (w.alloc (.cells #[.int .i64 0, .slice none 0 0] 26)) := by
    unfold execOp
    rw [ho]
    kernel_rfl
  unfold Oper.wp
  rw [e]
  exact h
theorem pipeWith_specq {v : Value} {p P : Pp} {n : Nt} {b : Bool} {w : World} (hq : pipeWith p n = (P, b)) (h : PpSl w v p) :
    Calls Try.prog 11 #[v, n.val] w fun e w' => ∃ u', e = .returned (.tuple #[.agg #[.int .i64 P.c, u'], .bool b]) ∧ OwnA fN.T fN w.heap.size w' u' P.l ∧ Below w.heap.size w w' := by
  have := pipeWith_spec v p n w h
  rw [hq] at this
  refine this.mono ?_
  rintro e w' ⟨_, rfl, ⟨u', rfl, ho⟩, hb⟩
  exact ⟨u', rfl, ho, hb⟩
theorem pipeWith_implq {v : Value} {p P : Pp} {n : Nt} {b : Bool} {w : World} (hq : pipeWith p n = (P, b)) (h : PpSl w v p) :
    Calls Try.prog 10 #[v, n.val] w fun e w' => ∃ u', e = .returned (.tuple #[.agg #[.int .i64 P.c, u'], .bool b]) ∧ OwnA 83 fN w.heap.size w' u' P.l ∧ Below w.heap.size w w' := by
  have := pipeWith_impl v p n w h
  rw [hq] at this
  refine this.mono ?_
  rintro e w' ⟨_, rfl, ⟨u', rfl, ho⟩, hb⟩
  exact ⟨u', rfl, ho, hb⟩
theorem pipeWith_len {p P : Pp} {n : Nt} {b : Bool} (hq : pipeWith p n = (P, b)) : P.l.length ≤ p.l.length + 1 := by
  unfold pipeWith at hq
  split at hq
  · split at hq
    · cases hq; exact Nat.le_succ _
    · cases hq; simp
  · cases hq; exact Nat.zero_le _
set_option maxHeartbeats 8000000 in
theorem exPipeWith (v : Value) (p : Pp) (n : Nt) (w : World) (h : PpL w v p) : Calls Try.prog 6 #[v, n.val] w fun e w' => e = .returned (.bool true) ∧ Below w.heap.size w w' := by
  obtain ⟨nv, hnv⟩ : ∃ nv, nv = n.val := ⟨_, rfl⟩
  rw [← hnv]
  obtain ⟨u, hvv, hu⟩ := h
  obtain ⟨c, l⟩ := p
  have hu : SlF fLN w u l := hu
  have hvv : v = .agg #[.int .i64 c, u] := hvv
  by_cases hs : (1048576 : Int) < (l.length : Int)
  · go_enter Try.func6, Try.ntmps6
    go_wp2_with (first
      | (refine box_lpp rfl rfl hvv ?_; intro w1 r1 b1)
      | (refine box_lnt rfl rfl hnv ?_; intro w2 n2 b2; have A2 := r1.below b2; have B2 := below_more b1 b2)
      | (refine ld_lpp rfl rfl rfl A2 ?_)
      | (go_at_call 23; refine (szPipe_any _ ⟨c, l⟩ _ _ ⟨u, rfl, hu.below B2⟩ (by omega)).mono ?_; rintro e w9 ⟨rfl, b9⟩; rw [if_pos (show (1048576 : Int) < (l.length : Int) by omega)]))
    go_ret
    exact ⟨rfl, below_more B2 b9⟩
  have hn : ¬ (1048576 : Int) - (l.length : Int) < 0 := by omega
  obtain ⟨P, bb, hq⟩ : ∃ P bb, pipeWith ⟨c, l⟩ n = (P, bb) := ⟨_, _, rfl⟩
  have hlP : P.l.length ≤ l.length + 1 := pipeWith_len hq
  obtain ⟨C, LL⟩ := P
  have hlP : LL.length ≤ l.length + 1 := hlP
  have hnn : (bb != bb) = false := by simp
  have HQ : Hid (pipeWith ⟨c, l⟩ n = (⟨C, LL⟩, bb)) := hq
  clear hq
  obtain ⟨zx, HZX⟩ : ∃ zx : Nat, Hid (zx = 1 + 5 * l.length) := ⟨_, show _ = _ from rfl⟩
  obtain ⟨zg, HZG⟩ : ∃ zg : Nat, Hid (zg = 1 + 5 * LL.length) := ⟨_, show _ = _ from rfl⟩
  have nx : ¬ (zx : Int) < 0 := by omega
  have ng : ¬ (zg : Int) < 0 := by omega
  have ngg : ((zg : Int) != (zg : Int)) = false := by simp
  go_enter Try.func6, Try.ntmps6
  go_wp2_with (first
    | (refine box_lpp rfl rfl hvv ?_; intro w1 r1 b1; have z1 := b1.size)
    | (refine box_lnt rfl rfl hnv ?_; intro w2 n2 b2; have A2 := r1.below b2; have B2 := below_more b1 b2; have z2 := b2.size; have y2 := n2.lt; have x2 := A2.lt)
    | (refine ld_lpp rfl rfl rfl A2 ?_))
  go_at_call 23
  refine (szPipe_any _ ⟨c, l⟩ _ _ ⟨u, rfl, hu.below B2⟩ (by omega)).mono ?_
  rintro e w11 ⟨rfl, b11⟩
  have A11 := A2.below b11
  have n11 := n2.below b11
  have B11 := below_more B2 b11
  have z11 := b11.size
  rw [if_neg (show ¬ (1048576 : Int) < (l.length : Int) by omega)]
  go_wp2_with fail
  refine region_vart (by kernel_rfl) (by kernel_rfl) 8 9 6 (by decide) (by decide) rfl rfl (by kernel_rfl) (by decide) (by kernel_rfl) 26 #[.int .i64 0, .slice none 0 0] (fun cs W => ∃ u', cs = #[.int .i64 C, u'] ∧ OwnA fN.T fN w11.heap.size W u' LL) (fun cs W W' h hb => by obtain ⟨u', e, h1⟩ := h; exact ⟨u', e, h1.below hb⟩) [KIs (.agg #[.int .i64 c, u]), KOf c w11.heap.size l, KIs n.val, KIs n.val, KTp fN.T C w11.heap.size LL bb, KTp fN.T C w11.heap.size LL bb, KPo fN.T C w11.heap.size LL, KIs (.bool bb), KAny, KAny, KIs (.bool bb)] ?keeps ?step ?alloc ?store ?done
  case keeps =>
    intro K hK
    simp only [List.mem_cons, List.not_mem_nil, or_false] at hK
    rcases hK with rfl | rfl | rfl | rfl | rfl | rfl | rfl | rfl | rfl | rfl | rfl
    all_goals first | exact keeps_is _ _ | exact keeps_any _ | exact keeps_of _ _ _ | exact keeps_tp _ (by decide) _ _ _ _ | exact keeps_po _ (by decide) _ _ _
  case step =>
    intro L ix o' A W hn1 hn2 hj hI hB hd
    have hin : ix < 11 := by
      by_cases hl : ix < 11
      · exact hl
      · simp [hl] at hj
    have hsz : A.tmps.size = 104 := hI.size
    rcases ix with _ | ix
    · obtain rfl := (Option.some.inj hj).symm
      have e1 : A.eval (.tmp 2) = .pointer (some ⟨w.heap.size, 0, none⟩) := hI.old 2 (by kernel_rfl)
      exact at_op rfl rfl (wp_load_row _ _ rfl _ e1 _ _ _ _ (A11.below hB).row Try.underlying52 rfl info_lpp ⟨_, rfl, rfl, Below.refl _ _⟩)
    rcases ix with _ | ix
    · obtain rfl := (Option.some.inj hj).symm
      have e1 : A.eval (.tmp 22) = .agg #[.int .i64 c, u] := hI.valT hd 0 22 rfl rfl (by kernel_rfl) (by decide) (by decide)
      refine at_op rfl rfl (call_op rfl Try.func24 (by kernel_rfl) (by kernel_rfl) ?_)
      simp only [List.map_cons, List.map_nil, e1]
      refine (toPipe_any _ ⟨c, l⟩ _ ⟨u, rfl, (hu.below B11).below hB⟩ (by show l.length ≤ 4000000; omega)).mono ?_
      rintro e W1 ⟨u', rfl, ho, hb⟩
      exact ⟨_, rfl, _, rfl, ⟨u', rfl, ho.mono hB.size⟩, hb⟩
    rcases ix with _ | ix
    · obtain rfl := (Option.some.inj hj).symm
      have e1 : A.eval (.tmp 3) = .pointer (some ⟨w1.heap.size, 0, none⟩) := hI.old 3 (by kernel_rfl)
      exact at_op rfl rfl (wp_load_row _ _ rfl _ e1 _ _ _ _ (n11.below hB).row Try.underlying47 rfl info_lnt ⟨_, rfl, rfl, Below.refl _ _⟩)
    rcases ix with _ | ix
    · obtain rfl := (Option.some.inj hj).symm
      have e1 : A.eval (.tmp 24) = n.val := hI.valT hd 2 24 rfl rfl (by kernel_rfl) (by decide) (by decide)
      refine at_op rfl rfl (call_op rfl Try.func22 (by kernel_rfl) (by kernel_rfl) ?_)
      simp only [List.map_cons, List.map_nil, e1]
      refine (toNote_any _ _).mono ?_
      rintro e W1 ⟨rfl, hb⟩
      exact ⟨_, rfl, _, rfl, rfl, hb⟩
    rcases ix with _ | ix
    · obtain rfl := (Option.some.inj hj).symm
      obtain ⟨u', e1, h1⟩ : KOf c w11.heap.size l (A.eval (.tmp 23)) W := hI.valT hd 1 23 rfl rfl (by kernel_rfl) (by decide) (by decide)
      have e2 : A.eval (.tmp 25) = n.val := hI.valT hd 3 25 rfl rfl (by kernel_rfl) (by decide) (by decide)
      refine at_op rfl rfl (call_op rfl Try.func11 (by kernel_rfl) (by kernel_rfl) ?_)
      simp only [List.map_cons, List.map_nil, e1, e2]
      refine (pipeWith_specq HQ.out ⟨_, rfl, h1.sl okN⟩).mono ?_
      rintro e W1 ⟨v', rfl, ho, hb⟩
      exact ⟨_, rfl, _, rfl, ⟨v', rfl, ho.mono hB.size⟩, hb⟩
    rcases ix with _ | ix
    · obtain rfl := (Option.some.inj hj).symm
      have e1 : KTp fN.T C w11.heap.size LL bb (A.eval (.tmp 26)) W := hI.valT hd 4 26 rfl rfl (by kernel_rfl) (by decide) (by decide)
      exact at_op rfl rfl (move_op rfl ⟨_, rfl, e1, Below.refl _ _⟩)
    rcases ix with _ | ix
    · obtain rfl := (Option.some.inj hj).symm
      obtain ⟨u', e1, h1⟩ : KTp fN.T C w11.heap.size LL bb (A.eval (.tmp 21)) W := hI.valT hd 5 21 rfl rfl (by kernel_rfl) (by decide) (by decide)
      refine at_op rfl rfl (val_op (v := .agg #[.int .i64 C, u']) ?_ ⟨_, rfl, ⟨u', rfl, h1⟩, Below.refl _ _⟩)
      unfold execOp
      simp only [List.getElem_toArray, List.getElem_cons_zero, List.getElem_cons_succ, e1]
      simp [go_sem]
    rcases ix with _ | ix
    · obtain rfl := (Option.some.inj hj).symm
      obtain ⟨u', e1, h1⟩ : KTp fN.T C w11.heap.size LL bb (A.eval (.tmp 21)) W := hI.valT hd 5 21 rfl rfl (by kernel_rfl) (by decide) (by decide)
      refine at_op rfl rfl (val_op (v := .bool bb) ?_ ⟨_, rfl, rfl, Below.refl _ _⟩)
      unfold execOp
      simp only [List.getElem_toArray, List.getElem_cons_zero, List.getElem_cons_succ, e1]
      simp [go_sem]
    rcases ix with _ | ix
    · exact absurd rfl hn1
    rcases ix with _ | ix
    · exact absurd rfl hn2
    rcases ix with _ | ix
    · obtain rfl := (Option.some.inj hj).symm
      have e1 : A.eval (.tmp 28) = .bool bb := hI.valT hd 7 28 rfl rfl (by kernel_rfl) (by decide) (by decide)
      exact at_op rfl rfl (assign_op rfl ⟨_, rfl, e1, Below.refl _ _⟩)
    omega
  case alloc =>
    intro o' A W hj
    obtain rfl := (Option.some.inj hj).symm
    exact at_op rfl rfl (alv_op (ops := #[]) rfl ⟨rfl, rfl⟩)
  case store =>
    intro L o' A W b cs hj hI hd eb hr hn
    obtain rfl := (Option.some.inj hj).symm
    obtain ⟨u', e1, h1⟩ : KPo fN.T C w11.heap.size LL (A.eval (.tmp 27)) W := hI.valT hd 6 27 rfl rfl (by kernel_rfl) (by decide) (by decide)
    have o1 := h1.one okN
    unfold Value.oneCell' at o1
    have hon : Onto b W (W.setRow b #[.int .i64 C, u']) := ⟨rfl, rfl, rfl, by simp, fun k hk _ => setRow_other W b k _ hk⟩
    exact at_op rfl rfl (wp_store_row _ _ _ rfl b #[.int .i64 C, u'] eb e1 _ _ hr.row info_pp hn (by simp only [List.all_toArray, List.all_cons, List.all_nil, Value.oneCell', o1, Bool.and_true]) ⟨rfl, _, Row.of (setRow_heap W b _ _ _ _ hr.row), hon, rfl, u', rfl, h1.onto hon (h1.not_row hr (by decide))⟩)
  case done =>
    intro A w12 PB cs hI b12 eb hr hE hb12
    have s1 : A.tmps.getD 7 undef = .bool bb := hI.lastT 10 7 rfl (by decide) (by decide)
    have hA := hI.frame [22, 23, 24, 25, 26, 21, 27, 28, 6, 7] (by kernel_rfl)
    rw [hA]
    simp only [putAll, List.foldl_cons, List.foldl_nil, eb, s1, Act.put, List.setIfInBounds_toArray, List.set_cons_zero, List.set_cons_succ]
    clear hA hI eb s1
    obtain ⟨Su, rfl, Sh⟩ := hE
    have P12 := hr
    have SL := Sh.lt
    have S1 := Sh.one okN
    have PBl := hr.lt
    have PBn : ∀ k, Su.ownBlock = some k → k ≠ PB := fun k hk e => Sh.not_row hr (by decide) (by rw [hk, e])
    have A12 := A11.below b12
    have n12 := n11.below b12
    have B12 := below_more B11 b12
    have z12 := b12.size
    go_wp2_with (first
      | (refine ld_lpp rfl rfl rfl A12 ?_))
    go_at_call 24
    refine (toPipe_any _ ⟨c, l⟩ _ ⟨u, rfl, hu.below B12⟩ (by show l.length ≤ 4000000; omega)).mono ?_
    rintro e w13 ⟨u13, rfl, h13, b13⟩
    have A13 := A12.below b13
    have n13 := n12.below b13
    have P13 := P12.below b13
    have S13 := Sh.below b13
    have B13 := below_more B12 b13
    have z13 := b13.size
    have i13 := h13.one okN
    have XL := h13.lt
    go_wp2_with (first
      | (refine al_pp rfl rfl ?_; intro w14 v14 b14; have A14 := A13.below b14; have n14 := n13.below b14; have P14 := P13.below b14; have S14 := S13.below b14; have X14 := h13.below b14; have B14 := below_more B13 b14; have y14 := v14.lt; have z14 := b14.size)
      | (refine st_pp rfl rfl rfl rfl v14 rfl i13 ?_; rintro w15 x15 o15 -; have A15 := A14.onto o15 (by have := A13.lt; omega); have n15 := n14.onto o15 (by have := n13.lt; omega); have P15 := P14.onto o15 (by have := P13.lt; omega); have S15 := S14.onto o15 (fun e => by have := (S13.lt _ e).2; omega); have X15 := X14.onto o15 (fun e => by have := (h13.lt _ e).2; omega); have B15 := below_onto B14 o15 (by omega); have z15 := o15.size; have xl := x15.lt))
    refine region_vart (by kernel_rfl) (by kernel_rfl) 7 8 9 (by decide) (by decide) rfl rfl (by kernel_rfl) (by decide) (by kernel_rfl) 26 #[.int .i64 0, .slice none 0 0] (fun cs W => ∃ u', cs = #[.int .i64 C, u'] ∧ OwnA 83 fN w15.heap.size W u' LL) (fun cs W W' h hb => by obtain ⟨u', e, h1⟩ := h; exact ⟨u', e, h1.below hb⟩) [KIs (.agg #[.int .i64 c, u13]), KIs n.val, KIs n.val, KTp 83 C w15.heap.size LL bb, KTp 83 C w15.heap.size LL bb, KPo 83 C w15.heap.size LL, KIs (.bool bb), KAny, KAny, KIs (.bool bb)] ?keeps ?step ?alloc ?store ?done
    case keeps =>
      intro K hK
      simp only [List.mem_cons, List.not_mem_nil, or_false] at hK
      rcases hK with rfl | rfl | rfl | rfl | rfl | rfl | rfl | rfl | rfl | rfl
      all_goals first | exact keeps_is _ _ | exact keeps_any _ | exact keeps_of _ _ _ | exact keeps_tp _ (by decide) _ _ _ _ | exact keeps_po _ (by decide) _ _ _
    case step =>
      intro L ix o' A W hn1 hn2 hj hI hB hd
      have hin : ix < 10 := by
        by_cases hl : ix < 10
        · exact hl
        · simp [hl] at hj
      have hsz : A.tmps.size = 104 := hI.size
      rcases ix with _ | ix
      · obtain rfl := (Option.some.inj hj).symm
        have e1 : A.eval (.tmp 8) = .pointer (some ⟨w13.heap.size, 0, none⟩) := hI.old 8 (by kernel_rfl)
        exact at_op rfl rfl (wp_load_row _ _ rfl _ e1 _ _ _ _ (x15.below hB).row Try.underlying26 rfl info_pp ⟨_, rfl, rfl, Below.refl _ _⟩)
      rcases ix with _ | ix
      · obtain rfl := (Option.some.inj hj).symm
        have e1 : A.eval (.tmp 3) = .pointer (some ⟨w1.heap.size, 0, none⟩) := hI.old 3 (by kernel_rfl)
        exact at_op rfl rfl (wp_load_row _ _ rfl _ e1 _ _ _ _ (n15.below hB).row Try.underlying47 rfl info_lnt ⟨_, rfl, rfl, Below.refl _ _⟩)
      rcases ix with _ | ix
      · obtain rfl := (Option.some.inj hj).symm
        have e1 : A.eval (.tmp 33) = n.val := hI.valT hd 1 33 rfl rfl (by kernel_rfl) (by decide) (by decide)
        refine at_op rfl rfl (call_op rfl Try.func22 (by kernel_rfl) (by kernel_rfl) ?_)
        simp only [List.map_cons, List.map_nil, e1]
        refine (toNote_any _ _).mono ?_
        rintro e W1 ⟨rfl, hb⟩
        exact ⟨_, rfl, _, rfl, rfl, hb⟩
      rcases ix with _ | ix
      · obtain rfl := (Option.some.inj hj).symm
        have e1 : A.eval (.tmp 32) = .agg #[.int .i64 c, u13] := hI.valT hd 0 32 rfl rfl (by kernel_rfl) (by decide) (by decide)
        have e2 : A.eval (.tmp 34) = n.val := hI.valT hd 2 34 rfl rfl (by kernel_rfl) (by decide) (by decide)
        refine at_op rfl rfl (call_op rfl Try.func10 (by kernel_rfl) (by kernel_rfl) ?_)
        simp only [List.map_cons, List.map_nil, e1, e2]
        refine (pipeWith_implq HQ.out ⟨_, rfl, (X15.below hB).sl okN⟩).mono ?_
        rintro e W1 ⟨v', rfl, ho, hb⟩
        exact ⟨_, rfl, _, rfl, ⟨v', rfl, ho.mono hB.size⟩, hb⟩
      rcases ix with _ | ix
      · obtain rfl := (Option.some.inj hj).symm
        have e1 : KTp 83 C w15.heap.size LL bb (A.eval (.tmp 35)) W := hI.valT hd 3 35 rfl rfl (by kernel_rfl) (by decide) (by decide)
        exact at_op rfl rfl (move_op rfl ⟨_, rfl, e1, Below.refl _ _⟩)
      rcases ix with _ | ix
      · obtain rfl := (Option.some.inj hj).symm
        obtain ⟨u', e1, h1⟩ : KTp 83 C w15.heap.size LL bb (A.eval (.tmp 31)) W := hI.valT hd 4 31 rfl rfl (by kernel_rfl) (by decide) (by decide)
        refine at_op rfl rfl (val_op (v := .agg #[.int .i64 C, u']) ?_ ⟨_, rfl, ⟨u', rfl, h1⟩, Below.refl _ _⟩)
        unfold execOp
        simp only [List.getElem_toArray, List.getElem_cons_zero, List.getElem_cons_succ, e1]
        simp [go_sem]
      rcases ix with _ | ix
      · obtain rfl := (Option.some.inj hj).symm
        obtain ⟨u', e1, h1⟩ : KTp 83 C w15.heap.size LL bb (A.eval (.tmp 31)) W := hI.valT hd 4 31 rfl rfl (by kernel_rfl) (by decide) (by decide)
        refine at_op rfl rfl (val_op (v := .bool bb) ?_ ⟨_, rfl, rfl, Below.refl _ _⟩)
        unfold execOp
        simp only [List.getElem_toArray, List.getElem_cons_zero, List.getElem_cons_succ, e1]
        simp [go_sem]
      rcases ix with _ | ix
      · exact absurd rfl hn1
      rcases ix with _ | ix
      · exact absurd rfl hn2
      rcases ix with _ | ix
      · obtain rfl := (Option.some.inj hj).symm
        have e1 : A.eval (.tmp 37) = .bool bb := hI.valT hd 6 37 rfl rfl (by kernel_rfl) (by decide) (by decide)
        exact at_op rfl rfl (assign_op rfl ⟨_, rfl, e1, Below.refl _ _⟩)
      omega
    case alloc =>
      intro o' A W hj
      obtain rfl := (Option.some.inj hj).symm
      exact at_op rfl rfl (alv_op (ops := #[]) rfl ⟨rfl, rfl⟩)
    case store =>
      intro L o' A W b cs hj hI hd eb hr hn
      obtain rfl := (Option.some.inj hj).symm
      obtain ⟨u', e1, h1⟩ : KPo 83 C w15.heap.size LL (A.eval (.tmp 36)) W := hI.valT hd 5 36 rfl rfl (by kernel_rfl) (by decide) (by decide)
      have o1 := h1.one okN
      unfold Value.oneCell' at o1
      have hon : Onto b W (W.setRow b #[.int .i64 C, u']) := ⟨rfl, rfl, rfl, by simp, fun k hk _ => setRow_other W b k _ hk⟩
      exact at_op rfl rfl (wp_store_row _ _ _ rfl b #[.int .i64 C, u'] eb e1 _ _ hr.row info_pp hn (by simp only [List.all_toArray, List.all_cons, List.all_nil, Value.oneCell', o1, Bool.and_true]) ⟨rfl, _, Row.of (setRow_heap W b _ _ _ _ hr.row), hon, rfl, u', rfl, h1.onto hon (h1.not_row hr (by decide))⟩)
    case done =>
      intro A w16 gB cs hI b16 eb hr hE hb16
      have s1 : A.tmps.getD 10 undef = .bool bb := hI.lastT 9 10 rfl (by decide) (by decide)
      have hA := hI.frame [32, 33, 34, 35, 31, 36, 37, 9, 10] (by kernel_rfl)
      rw [hA]
      simp only [putAll, List.foldl_cons, List.foldl_nil, eb, s1, Act.put, List.setIfInBounds_toArray, List.set_cons_zero, List.set_cons_succ]
      clear hA hI eb s1
      obtain ⟨Gu, rfl, Gh⟩ := hE
      have g16 := hr
      have GL := Gh.lt
      have G1 := Gh.one okN
      have gBl := hr.lt
      have gBn : ∀ k, Gu.ownBlock = some k → k ≠ gB := fun k hk e => Gh.not_row hr (by decide) (by rw [hk, e])
      have A16 := A15.below b16
      have n16 := n15.below b16
      have P16 := P15.below b16
      have S16 := S15.below b16
      have X16 := X15.below b16
      have x16 := x15.below b16
      have B16 := below_more B15 b16
      have z16 := b16.size
      go_wp2_with (first
        | (refine ld_ppg rfl rfl rfl g16 ?_)
        | (refine ld_ppg rfl rfl rfl P16 ?_))
      go_at_call 25
      refine (eqPipe_same _ _ ⟨C, LL⟩ _ ⟨_, rfl, Gh.sl okN⟩ ⟨_, rfl, S16.sl okN⟩).mono ?_
      rintro e w17 ⟨rfl, b17⟩
      have A17 := A16.below b17
      have n17 := n16.below b17
      have P17 := P16.below b17
      have S17 := S16.below b17
      have X17 := X16.below b17
      have x17 := x16.below b17
      have g17 := g16.below b17
      have G17 := Gh.below b17
      have B17 := below_more B16 b17
      have z17 := b17.size
      go_wp2_with fail
      refine region_km (by kernel_rfl) (by kernel_rfl) (by kernel_rfl) (fun L W => Gpx w17 (w.heap.size) (w13.heap.size) c u u13 l W) (fun j => (kPx c u u13 l).getD j KAny) (fun L L' W hL h => h) ((show Gpx w17 (w.heap.size) (w13.heap.size) c u u13 l w17 from ⟨A17, x17, hu.below B17, X17.sl okN, Below.refl _ _⟩).below (drew_below (n := 1) rfl)) ?step ?done
      case step =>
        intro L ix o A W hi hI hLi hd
        have hin : ix < 5 := by
          by_cases hl : ix < 5
          · exact hl
          · simp [hl] at hi
        have hsz : A.tmps.size = 104 := hI.size
        have hg : Gpx w17 (w.heap.size) (w13.heap.size) c u u13 l W := hI.j.1
        rcases ix with _ | _ | _ | _ | _ | ix
        · cases hi
          have e1 : A.eval (.tmp 8) = .pointer (some ⟨w13.heap.size, 0, none⟩) := hI.old 8 (by kernel_rfl)
          exact at_op rfl rfl (wp_load_row _ _ rfl _ e1 _ _ _ _ hg.x.row Try.underlying26 rfl info_pp ⟨_, rfl, hg, fun _ _ h => h, fun _ => rfl⟩)
        · cases hi
          have e1 : A.eval (.tmp 2) = .pointer (some ⟨w.heap.size, 0, none⟩) := hI.old 2 (by kernel_rfl)
          exact at_op rfl rfl (wp_load_row _ _ rfl _ e1 _ _ _ _ hg.arg.row Try.underlying52 rfl info_lpp ⟨_, rfl, hg, fun _ _ h => h, fun _ => rfl⟩)
        · cases hi
          have e1 : A.eval (.tmp 48) = .agg #[.int .i64 c, u] := hI.km hd 1 48 rfl rfl (by kernel_rfl)
          refine at_op rfl rfl (call_op rfl Try.func24 (by kernel_rfl) (by kernel_rfl) ?_)
          simp only [List.map_cons, List.map_nil, e1]
          refine (toPipe_any _ ⟨c, l⟩ _ ⟨u, rfl, hg.la⟩ (by show l.length ≤ 4000000; omega)).mono ?_
          rintro e W1 ⟨u', rfl, ho, hb⟩
          exact ⟨_, rfl, _, rfl, hg.below hb, fun j v h => kPx_keep j v _ _ h hb, fun _ => ⟨u', rfl, ho.sl okN⟩⟩
        · cases hi
          have e1 : A.eval (.tmp 47) = .agg #[.int .i64 c, u13] := hI.km hd 0 47 rfl rfl (by kernel_rfl)
          obtain ⟨u', e2, h2⟩ : ∃ u', A.eval (.tmp 49) = .agg #[.int .i64 c, u'] ∧ SlF fN W u' l := hI.km hd 2 49 rfl rfl (by kernel_rfl)
          refine at_op rfl rfl (call_op rfl Try.func25 (by kernel_rfl) (by kernel_rfl) ?_)
          simp only [List.map_cons, List.map_nil, e1, e2]
          refine (eqPipe_same _ _ ⟨c, l⟩ _ ⟨_, rfl, hg.lx⟩ ⟨_, rfl, h2⟩).mono ?_
          rintro e W1 ⟨rfl, hb⟩
          exact ⟨_, rfl, _, rfl, hg.below hb, fun j v h => kPx_keep j v _ _ h hb, fun _ => rfl⟩
        · cases hi
          have e1 : A.eval (.tmp 50) = .bool true := hI.km hd 3 50 rfl rfl (by kernel_rfl)
          refine at_op rfl rfl (val_op (v := .bool false) ?_ ⟨_, rfl, hg, fun _ _ h => h, fun _ => rfl⟩)
          unfold execOp
          simp only [List.getElem_toArray, List.getElem_cons_zero, List.getElem_cons_succ, e1]
          simp [go_sem]
        · omega
      case done =>
        intro A W10 hI hS
        have hg10 : Gpx w17 (w.heap.size) (w13.heap.size) c u u13 l W10 := hS
        have e4 : A.tmps.getD 51 undef = .bool false := hI.kml 4 51 rfl
        have hA := hI.frame [47, 48, 49, 50, 51] (by kernel_rfl)
        rw [hA]
        simp only [putAll, List.foldl_cons, List.foldl_nil, e4, Act.put, List.setIfInBounds_toArray, List.set_cons_zero, List.set_cons_succ]
        clear hA hI e4
        have bel10 := hg10.bel
        have A900 := A17.below bel10
        have n900 := n17.below bel10
        have P900 := P17.below bel10
        have S900 := S17.below bel10
        have X900 := X17.below bel10
        have x900 := x17.below bel10
        have g900 := g17.below bel10
        have G900 := G17.below bel10
        have B900 := below_more B17 bel10
        have z900 := bel10.size
        clear hg10
        go_wp2_with (first
          | (refine ld_ppg rfl rfl rfl x900 ?_))
        go_at_call 26
        refine (markPipe_z fN.T c u13 l zx W10 _ X900.toA (by omega) HZX.out (by omega)).mono ?_
        rintro e w902 ⟨rfl, q902, t902⟩
        have A902 := A900.keep (t902.block _ A900.lt (fun e => by have := XL _ e.symm; omega))
        have n902 := n900.keep (t902.block _ n900.lt (fun e => by have := XL _ e.symm; omega))
        have P902 := P900.keep (t902.block _ P900.lt (fun e => by have := XL _ e.symm; omega))
        have S902 := S900.grown t902 (fun k hk e => by have := XL k hk; have := SL k e; omega)
        have x902 := x900.keep (t902.block _ x900.lt (fun e => by have := XL _ e.symm; omega))
        have g902 := g900.keep (t902.block _ g900.lt (fun e => by have := XL _ e.symm; omega))
        have G902 := G900.grown t902 (fun k hk e => by have := XL k hk; have := GL k e; omega)
        have B902 := B900.grown t902 B900.size (fun k hk => by have := XL k hk; omega)
        have z902 := t902.size
        go_wp2_with (first
          | (refine ld_ppg rfl rfl rfl g902 ?_)
          | (refine ld_ppg rfl rfl rfl P902 ?_))
        go_at_call 25
        refine (eqPipe_same _ _ ⟨C, LL⟩ _ ⟨_, rfl, G902.sl okN⟩ ⟨_, rfl, S902.sl okN⟩).mono ?_
        rintro e w903 ⟨rfl, b903⟩
        have A903 := A902.below b903
        have n903 := n902.below b903
        have P903 := P902.below b903
        have S903 := S902.below b903
        have x903 := x902.below b903
        have g903 := g902.below b903
        have G903 := G902.below b903
        have B903 := below_more B902 b903
        have z903 := b903.size
        go_wp2_with (first
          | (refine ld_ppg rfl rfl rfl g903 ?_))
        go_at_call 26
        refine (markPipe_z 83 C Gu LL zg w903 _ G903 (by omega) HZG.out (by omega)).mono ?_
        rintro e w904 ⟨rfl, q904, t904⟩
        have A904 := A903.keep (t904.block _ A903.lt (fun e => by have := GL _ e.symm; omega))
        have n904 := n903.keep (t904.block _ n903.lt (fun e => by have := GL _ e.symm; omega))
        have P904 := P903.keep (t904.block _ P903.lt (fun e => by have := GL _ e.symm; omega))
        have S904 := S903.grown t904 (fun k hk e => by have := GL k hk; have := SL k e; omega)
        have x904 := x903.keep (t904.block _ x903.lt (fun e => by have := GL _ e.symm; omega))
        have g904 := g903.keep (t904.block _ g903.lt (fun e => gBn _ e.symm rfl))
        have B904 := B903.grown t904 B903.size (fun k hk => by have := GL k hk; omega)
        have z904 := t904.size
        go_wp2_with (first
          | (refine ld_ppg rfl rfl rfl g904 ?_))
        go_at_call 27
        refine (heldPipe_z C Gu LL.length zg _ (q904.sl okN) (by omega) HZG.out).mono ?_
        rintro e w905 ⟨rfl, b905⟩
        have A905 := A904.below b905
        have n905 := n904.below b905
        have P905 := P904.below b905
        have S905 := S904.below b905
        have x905 := x904.below b905
        have g905 := g904.below b905
        have G905 := q904.below b905
        have B905 := below_more B904 b905
        have z905 := b905.size
        go_wp2_with fail
        refine region_vart (by kernel_rfl) (by kernel_rfl) 8 9 14 (by decide) (by decide) rfl rfl (by kernel_rfl) (by decide) (by kernel_rfl) 26 #[.int .i64 0, .slice none 0 0] (fun cs W => ∃ u', cs = #[.int .i64 C, u'] ∧ OwnA 83 fN w905.heap.size W u' LL) (fun cs W W' h hb => by obtain ⟨u', e, h1⟩ := h; exact ⟨u', e, h1.below hb⟩) [KIs (.agg #[.int .i64 c, u]), KOf c w905.heap.size l, KIs n.val, KIs n.val, KTp 83 C w905.heap.size LL bb, KTp 83 C w905.heap.size LL bb, KPo 83 C w905.heap.size LL, KIs (.bool bb), KAny, KAny, KIs (.bool bb)] ?keeps ?step ?alloc ?store ?done
        case keeps =>
          intro K hK
          simp only [List.mem_cons, List.not_mem_nil, or_false] at hK
          rcases hK with rfl | rfl | rfl | rfl | rfl | rfl | rfl | rfl | rfl | rfl | rfl
          all_goals first | exact keeps_is _ _ | exact keeps_any _ | exact keeps_of _ _ _ | exact keeps_tp _ (by decide) _ _ _ _ | exact keeps_po _ (by decide) _ _ _
        case step =>
          intro L ix o' A W hn1 hn2 hj hI hB hd
          have hin : ix < 11 := by
            by_cases hl : ix < 11
            · exact hl
            · simp [hl] at hj
          have hsz : A.tmps.size = 104 := hI.size
          rcases ix with _ | ix
          · obtain rfl := (Option.some.inj hj).symm
            have e1 : A.eval (.tmp 2) = .pointer (some ⟨w.heap.size, 0, none⟩) := hI.old 2 (by kernel_rfl)
            exact at_op rfl rfl (wp_load_row _ _ rfl _ e1 _ _ _ _ (A905.below hB).row Try.underlying52 rfl info_lpp ⟨_, rfl, rfl, Below.refl _ _⟩)
          rcases ix with _ | ix
          · obtain rfl := (Option.some.inj hj).symm
            have e1 : A.eval (.tmp 80) = .agg #[.int .i64 c, u] := hI.valT hd 0 80 rfl rfl (by kernel_rfl) (by decide) (by decide)
            refine at_op rfl rfl (call_op rfl Try.func24 (by kernel_rfl) (by kernel_rfl) ?_)
            simp only [List.map_cons, List.map_nil, e1]
            refine (toPipe_any _ ⟨c, l⟩ _ ⟨u, rfl, (hu.below B905).below hB⟩ (by show l.length ≤ 4000000; omega)).mono ?_
            rintro e W1 ⟨u', rfl, ho, hb⟩
            exact ⟨_, rfl, _, rfl, ⟨u', rfl, ho.mono hB.size⟩, hb⟩
          rcases ix with _ | ix
          · obtain rfl := (Option.some.inj hj).symm
            have e1 : A.eval (.tmp 3) = .pointer (some ⟨w1.heap.size, 0, none⟩) := hI.old 3 (by kernel_rfl)
            exact at_op rfl rfl (wp_load_row _ _ rfl _ e1 _ _ _ _ (n905.below hB).row Try.underlying47 rfl info_lnt ⟨_, rfl, rfl, Below.refl _ _⟩)
          rcases ix with _ | ix
          · obtain rfl := (Option.some.inj hj).symm
            have e1 : A.eval (.tmp 82) = n.val := hI.valT hd 2 82 rfl rfl (by kernel_rfl) (by decide) (by decide)
            refine at_op rfl rfl (call_op rfl Try.func22 (by kernel_rfl) (by kernel_rfl) ?_)
            simp only [List.map_cons, List.map_nil, e1]
            refine (toNote_any _ _).mono ?_
            rintro e W1 ⟨rfl, hb⟩
            exact ⟨_, rfl, _, rfl, rfl, hb⟩
          rcases ix with _ | ix
          · obtain rfl := (Option.some.inj hj).symm
            obtain ⟨u', e1, h1⟩ : KOf c w905.heap.size l (A.eval (.tmp 81)) W := hI.valT hd 1 81 rfl rfl (by kernel_rfl) (by decide) (by decide)
            have e2 : A.eval (.tmp 83) = n.val := hI.valT hd 3 83 rfl rfl (by kernel_rfl) (by decide) (by decide)
            refine at_op rfl rfl (call_op rfl Try.func10 (by kernel_rfl) (by kernel_rfl) ?_)
            simp only [List.map_cons, List.map_nil, e1, e2]
            refine (pipeWith_implq HQ.out ⟨_, rfl, h1.sl okN⟩).mono ?_
            rintro e W1 ⟨v', rfl, ho, hb⟩
            exact ⟨_, rfl, _, rfl, ⟨v', rfl, ho.mono hB.size⟩, hb⟩
          rcases ix with _ | ix
          · obtain rfl := (Option.some.inj hj).symm
            have e1 : KTp 83 C w905.heap.size LL bb (A.eval (.tmp 84)) W := hI.valT hd 4 84 rfl rfl (by kernel_rfl) (by decide) (by decide)
            exact at_op rfl rfl (move_op rfl ⟨_, rfl, e1, Below.refl _ _⟩)
          rcases ix with _ | ix
          · obtain rfl := (Option.some.inj hj).symm
            obtain ⟨u', e1, h1⟩ : KTp 83 C w905.heap.size LL bb (A.eval (.tmp 79)) W := hI.valT hd 5 79 rfl rfl (by kernel_rfl) (by decide) (by decide)
            refine at_op rfl rfl (val_op (v := .agg #[.int .i64 C, u']) ?_ ⟨_, rfl, ⟨u', rfl, h1⟩, Below.refl _ _⟩)
            unfold execOp
            simp only [List.getElem_toArray, List.getElem_cons_zero, List.getElem_cons_succ, e1]
            simp [go_sem]
          rcases ix with _ | ix
          · obtain rfl := (Option.some.inj hj).symm
            obtain ⟨u', e1, h1⟩ : KTp 83 C w905.heap.size LL bb (A.eval (.tmp 79)) W := hI.valT hd 5 79 rfl rfl (by kernel_rfl) (by decide) (by decide)
            refine at_op rfl rfl (val_op (v := .bool bb) ?_ ⟨_, rfl, rfl, Below.refl _ _⟩)
            unfold execOp
            simp only [List.getElem_toArray, List.getElem_cons_zero, List.getElem_cons_succ, e1]
            simp [go_sem]
          rcases ix with _ | ix
          · exact absurd rfl hn1
          rcases ix with _ | ix
          · exact absurd rfl hn2
          rcases ix with _ | ix
          · obtain rfl := (Option.some.inj hj).symm
            have e1 : A.eval (.tmp 86) = .bool bb := hI.valT hd 7 86 rfl rfl (by kernel_rfl) (by decide) (by decide)
            exact at_op rfl rfl (assign_op rfl ⟨_, rfl, e1, Below.refl _ _⟩)
          omega
        case alloc =>
          intro o' A W hj
          obtain rfl := (Option.some.inj hj).symm
          exact at_op rfl rfl (alv_op (ops := #[]) rfl ⟨rfl, rfl⟩)
        case store =>
          intro L o' A W b cs hj hI hd eb hr hn
          obtain rfl := (Option.some.inj hj).symm
          obtain ⟨u', e1, h1⟩ : KPo 83 C w905.heap.size LL (A.eval (.tmp 85)) W := hI.valT hd 6 85 rfl rfl (by kernel_rfl) (by decide) (by decide)
          have o1 := h1.one okN
          unfold Value.oneCell' at o1
          have hon : Onto b W (W.setRow b #[.int .i64 C, u']) := ⟨rfl, rfl, rfl, by simp, fun k hk _ => setRow_other W b k _ hk⟩
          exact at_op rfl rfl (wp_store_row _ _ _ rfl b #[.int .i64 C, u'] eb e1 _ _ hr.row info_pp hn (by simp only [List.all_toArray, List.all_cons, List.all_nil, Value.oneCell', o1, Bool.and_true]) ⟨rfl, _, Row.of (setRow_heap W b _ _ _ _ hr.row), hon, rfl, u', rfl, h1.onto hon (h1.not_row hr (by decide))⟩)
        case done =>
          intro A w906 hB cs hI b906 eb hr hE hb906
          have s1 : A.tmps.getD 15 undef = .bool bb := hI.lastT 10 15 rfl (by decide) (by decide)
          have hA := hI.frame [80, 81, 82, 83, 84, 79, 85, 86, 14, 15] (by kernel_rfl)
          rw [hA]
          simp only [putAll, List.foldl_cons, List.foldl_nil, eb, s1, Act.put, List.setIfInBounds_toArray, List.set_cons_zero, List.set_cons_succ]
          clear hA hI eb s1
          obtain ⟨Hu, rfl, Hh⟩ := hE
          have h906 := hr
          have HL := Hh.lt
          have H1 := Hh.one okN
          have hBl := hr.lt
          have hBn : ∀ k, Hu.ownBlock = some k → k ≠ hB := fun k hk e => Hh.not_row hr (by decide) (by rw [hk, e])
          have A906 := A905.below b906
          have n906 := n905.below b906
          have P906 := P905.below b906
          have S906 := S905.below b906
          have x906 := x905.below b906
          have g906 := g905.below b906
          have G906 := G905.below b906
          have B906 := below_more B905 b906
          have z906 := b906.size
          go_wp2_with (first
            | (refine ld_ppg rfl rfl rfl h906 ?_)
            | (refine ld_ppg rfl rfl rfl P906 ?_))
          go_at_call 25
          refine (eqPipe_same _ _ ⟨C, LL⟩ _ ⟨_, rfl, Hh.sl okN⟩ ⟨_, rfl, S906.sl okN⟩).mono ?_
          rintro e w907 ⟨rfl, b907⟩
          have A907 := A906.below b907
          have n907 := n906.below b907
          have P907 := P906.below b907
          have S907 := S906.below b907
          have x907 := x906.below b907
          have g907 := g906.below b907
          have G907 := G906.below b907
          have h907 := h906.below b907
          have H907 := Hh.below b907
          have B907 := below_more B906 b907
          have z907 := b907.size
          go_wp2_with (first
            | (refine ld_ppg rfl rfl rfl g907 ?_))
          go_at_call 27
          refine (heldPipe_z C Gu LL.length zg _ (G907.sl okN) (by omega) HZG.out).mono ?_
          rintro e w908 ⟨rfl, b908⟩
          have A908 := A907.below b908
          have n908 := n907.below b908
          have P908 := P907.below b908
          have S908 := S907.below b908
          have x908 := x907.below b908
          have g908 := g907.below b908
          have G908 := G907.below b908
          have h908 := h907.below b908
          have H908 := H907.below b908
          have B908 := below_more B907 b908
          have z908 := b908.size
          go_wp2
          go_ret
          exact ⟨rfl, B908⟩
end Go.Proofs.Ytggfjghcgacdnaa.Mem
