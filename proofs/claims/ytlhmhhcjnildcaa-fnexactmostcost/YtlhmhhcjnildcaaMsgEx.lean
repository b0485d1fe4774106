/-
  The exact laws of chapter 9's InboxOk, InboxWith and MostCost.
-/
import Derived.Test.YtlhmhhcjnildcaaInW
import Derived.Test.YtlhmhhcjnildcaaMsgMk
namespace Go.Proofs.Ytlhmhhcjnildcaa.Mem
open Go.ChangeShapes Go.WideShapes Go.RowKit Base Num Slc Slf Rw Tmr Reg Ex
set_option linter.unusedVariables false
set_option linter.unusedSimpArgs false
set_option maxRecDepth 20000

theorem exMostCost (w : World) : Calls Try.prog 5 #[] w fun e w' => e = .returned (.bool true) ∧ w' = w := by
  have h1 : ∀ w, Calls Try.prog 16 #[] w fun e w' => e = .returned (.int .i64 5) ∧ w' = w := fun w => by
    go_enter Try.func16, Try.ntmps16
    go_wp2
    go_ret
    exact ⟨rfl, rfl⟩
  have h2 : ∀ w, Calls Try.prog 17 #[] w fun e w' => e = .returned (.int .i64 5) ∧ w' = w := fun w => by
    go_enter Try.func17, Try.ntmps17
    go_wp2
    go_ret
    exact ⟨rfl, rfl⟩
  go_enter Try.func5, Try.ntmps5
  go_wp2_with (first
    | (go_at_call 16; refine (h1 _).mono ?_; rintro e w1 ⟨rfl, rfl⟩)
    | (go_at_call 17; refine (h2 _).mono ?_; rintro e w1 ⟨rfl, rfl⟩))
  go_ret
  exact ⟨rfl, rfl⟩
theorem exInboxOk (v : Value) (l : List M3) (w : World) (h : SlF fL w v l) :
    Calls Try.prog 3 #[v] w fun e w' => e = .returned (.bool true) ∧ Below w.heap.size w w' := by
  by_cases hb : l.length ≤ 1048576
  · have hnn : ((inboxOk l) != (inboxOk l)) = false := by simp
    generalize hq : inboxOk l = q at hnn
    have HQ : Hid (inboxOk l = q) := hq
    clear hq
    have hsz : ¬ (1048576 : Int) < (l.length : Int) := by omega
    go_enter Try.func3, Try.ntmps3
    go_wp2_with fail
    go_at_call 6; refine (szMsgS_any _ l _ _ h (by omega)).mono ?_; rintro e w0 ⟨rfl, rfl⟩
    rw [if_neg (show ¬ (1048576 : Int) < (l.length : Int) by omega)]
    go_wp2_with fail
    go_at_call 8; refine (toMsgS_any _ l _ h (by omega)).mono ?_; rintro e w1 ⟨t1, rfl, ht1, hb1⟩
    have hA1 := h.below hb1
    go_wp2_with fail
    go_at_call 7; refine (inboxOk_spec _ l _ (ht1.sl okM)).mono ?_; rintro e w2 ⟨rfl, hb2⟩
    rw [HQ.out]
    have hA2 := hA1.below hb2
    have hB2 := below_more hb1 hb2
    go_wp2_with fail
    go_at_call 8; refine (toMsgS_any _ l _ hA2 (by omega)).mono ?_; rintro e w3 ⟨x0, rfl, hx0, hb3⟩
    have hA3 := hA2.below hb3
    have hB3 := below_more hB2 hb3
    go_wp2_with fail
    go_at_call 9; refine (inboxOk_impl _ l _ (hx0.sl okM)).mono ?_; rintro e w4 ⟨rfl, hb4⟩
    rw [HQ.out]
    have hA4 := hA3.below hb4
    have hB4 := below_more hB3 hb4
    have hx4 := hx0.below hb4
    go_wp2_with fail
    go_at_call 8; refine (toMsgS_any _ l _ hA4 (by omega)).mono ?_; rintro e w5 ⟨t5, rfl, ht5, hb5⟩
    have hB5 := below_more hB4 hb5
    have hx5 := hx4.below hb5
    go_wp2_with fail
    go_at_call 10; refine (eqMsgS_same _ _ l _ (hx5.sl okM) (ht5.sl okM)).mono ?_; rintro e w6 ⟨rfl, hb6⟩
    go_wp2
    go_ret
    exact ⟨rfl, below_more hB5 hb6⟩
  · have hsz : (1048576 : Int) < (l.length : Int) := by omega
    go_enter Try.func3, Try.ntmps3
    go_wp2_with fail
    go_at_call 6; refine (szMsgS_any _ l _ _ h (by omega)).mono ?_; rintro e w0 ⟨rfl, rfl⟩
    rw [if_pos (show (1048576 : Int) < (l.length : Int) by omega)]
    go_wp2
    go_ret
    exact ⟨rfl, Below.refl _ _⟩
/-- A message of the laws' own in a block. -/
abbrev L3Row (w : World) (g : Nat) (m : M3) : Prop := Row w g #[.int .i64 m.t, .int .i64 m.k, .int .i64 m.v] 30
theorem info_l3 : (Try.prog.info? 30).map (·.size) = some 3 := by kernel_rfl
section
variable {ops : Array Oper} {rest : List Oper} {o : Oper} {a : Act} {w : World} {Q : Exit → Act → World → Prop} {x y : Operand} {g k : Nat} {v : Value} {m : M3}
theorem box_l3 (hgd : o.guard = none) (ho : o.op = .box 30 x) (hx : a.eval x = m.val)
    (h : ∀ w', L3Row w' w.heap.size m → Below w.heap.size w w' → wpList Try.prog ops Q rest (a.put o.dst (.pointer (some ⟨w.heap.size, 0, none⟩))) w') : wpList Try.prog ops Q (o :: rest) a w :=
  wpList_plain hgd fun _ hK => by
    have e : (Instr.box 30 m.val).run Try.prog w = .ok (.pointer (some ⟨w.heap.size, 0, none⟩)) (w.alloc (.cells #[.int .i64 m.t, .int .i64 m.k, .int .i64 m.v] 30)) := rfl
    unfold Oper.wp execOp
    simp only [ho, hx, Sem.run_bind, Result.andThen_ok, e]
    exact hK _ _ (h _ (Row.new _ _ _) ((Below.refl _ _).alloc (Nat.le_refl _) _))
theorem ld_l3 (hgd : o.guard = none) (ho : o.op = .load 30 x) (hx : a.eval x = .pointer (some ⟨g, 0, none⟩)) (hr : L3Row w g m)
    (h : wpList Try.prog ops Q rest (a.put o.dst m.val) w) : wpList Try.prog ops Q (o :: rest) a w :=
  ld_row hgd _ x ho hx hr Try.underlying30 rfl info_l3 h
end
/-- What stands while an argument is taken over and the function is called. -/
structure Gm (w : World) (v : Value) (l : List M3) (m : M3) (K : World → Prop) (W : World) : Prop where
  sl : SlF fL W v l
  row : L3Row W w.heap.size m
  bel : Below w.heap.size w W
  k : K W
theorem Gm.below {w W W' : World} {v : Value} {l : List M3} {m : M3} {K : World → Prop} (hK : ∀ W W', K W → Below W.heap.size W W' → K W') (h : Gm w v l m K W) (hb : Below W.heap.size W W') : Gm w v l m K W' := ⟨h.sl.below hb, h.row.below hb, below_more h.bel hb, hK _ _ h.k hb⟩
theorem Gm.drew {w W : World} {v : Value} {l : List M3} {m : M3} {K : World → Prop} (hK : ∀ W W', K W → Below W.heap.size W W' → K W') (h : Gm w v l m K W) : Gm w v l m K W.drew := h.below hK (drew_below (n := 1) rfl)
/-- A list of one's own and a flag. -/
def KTup (base : Nat) (L : List M3) (B : Bool) (v : Value) (W : World) : Prop := ∃ v', v = .tuple #[v', .bool B] ∧ OwnF fM base W v' L
theorem bears_tup (base : Nat) (L : List M3) (B : Bool) : Bears (fun _ => False) (KTup base L B) := fun v w w' h hr => by
  obtain ⟨v', e, ho⟩ := h
  exact ⟨v', e, ho.kept (fun k hk => hr.2 k id (ho.lt k hk).2)⟩
theorem inboxWith_len (l : List M3) (m : M3) : (inboxWith l m).1.length ≤ l.length + 1 := by
  unfold inboxWith
  split
  · split
    · exact Nat.le_succ _
    · exact Nat.le_of_eq (with_len l m)
  · exact Nat.zero_le _
set_option maxHeartbeats 4000000 in
theorem exInboxWith (v : Value) (l : List M3) (m : M3) (w : World) (h : SlF fL w v l) :
    Calls Try.prog 4 #[v, m.val] w fun e w' => e = .returned (.bool true) ∧ Below w.heap.size w w' := by
  obtain ⟨vv, hvv⟩ : ∃ vv, vv = m.val := ⟨_, rfl⟩
  rw [← hvv]
  have AL : 0 < l.length → ∀ k, v.ownBlock = some k → k < w.heap.size := h.lt
  by_cases hb : l.length ≤ 1048576
  · have hlen := inboxWith_len l m
    obtain ⟨LL, hL⟩ : ∃ LL, (inboxWith l m).1 = LL := ⟨_, rfl⟩
    obtain ⟨BB, hBB⟩ : ∃ BB, (inboxWith l m).2 = BB := ⟨_, rfl⟩
    rw [hL] at hlen
    have HL : Hid ((inboxWith l m).1 = LL) := hL
    have HBB : Hid ((inboxWith l m).2 = BB) := hBB
    clear hL hBB
    have hnn : (BB != BB) = false := by simp
    have hsz : ¬ (1048576 : Int) < (l.length : Int) := by omega
    go_enter Try.func4, Try.ntmps4
    go_wp2_with (refine box_l3 rfl rfl hvv ?_; intro wb rb hBb; have hab := h.below hBb; have lb := rb.lt)
    go_at_call 6
    refine (szMsgS_any _ l _ _ hab (by omega)).mono ?_
    rintro e w0 ⟨rfl, rfl⟩
    rw [if_neg (show ¬ (1048576 : Int) < (l.length : Int) by omega)]
    go_wp2_with fail
    have hG : Gm w v l m (fun W => w0.heap.size ≤ W.heap.size ∧ True) w0 := ⟨hab, rb, hBb, Nat.le_refl _, trivial⟩
    have hK1 : ∀ W W' : World, (fun W : World => w0.heap.size ≤ W.heap.size ∧ True) W → Below W.heap.size W W' → (fun W : World => w0.heap.size ≤ W.heap.size ∧ True) W' := fun W W' h hb => ⟨Nat.le_trans h.1 hb.size, trivial⟩
    clear h hab rb hBb
    refine region_by (by kernel_rfl) (by kernel_rfl) (fun W => Gm w v l m (fun W => w0.heap.size ≤ W.heap.size ∧ True) W) (kinds [KIs (v), KSl l, KIs (m.val), KIs (m.val), KTup w0.heap.size LL BB, KTup w0.heap.size LL BB, KOwn w0.heap.size LL, KIs (.bool BB), KOwn w0.heap.size LL, KIs (.bool BB)]) (Rel fun _ => False) (by kernel_rfl) (kinds_mono ?mono) (hG.drew hK1) ?step ?done
    case mono =>
      intro K hK
      simp only [List.mem_cons, List.not_mem_nil, or_false] at hK
      rcases hK with rfl | rfl | rfl | rfl | rfl | rfl | rfl | rfl | rfl | rfl
      all_goals first | exact bears_is _ _ | exact bears_slF _ | exact bears_tup _ _ _ | exact bears_ownF _ _
    case step =>
      intro L ix o' A W hj hI hL hd
      have hin : ix < 10 := by
        by_cases hl : ix < 10
        · exact hl
        · simp [hl] at hj
      have hsz : A.tmps.size = 104 := hI.size
      have hg := hI.g
      rcases ix with _ | ix
      · obtain rfl := (Option.some.inj hj).symm
        have e0 : A.eval (.tmp 0) = v := hI.old 0 (by kernel_rfl)
        exact at_op rfl rfl (move_op rfl ⟨_, rfl, e0, hg, Rel.refl _ _⟩)
      rcases ix with _ | ix
      · obtain rfl := (Option.some.inj hj).symm
        have e0 : A.eval (.tmp 22) = v := hI.get hd 0 22 rfl (by kernel_rfl)
        refine at_op rfl rfl (call_op rfl Try.func8 (by kernel_rfl) (by kernel_rfl) ?_)
        simp only [List.map_cons, List.map_nil, e0]
        refine (toMsgS_any _ l _ hg.sl (by omega)).mono ?_
        rintro e W1 ⟨v', rfl, ho, hb⟩
        exact ⟨_, rfl, _, rfl, ho.sl okM, hg.below hK1 hb, Rel.below hb⟩
      rcases ix with _ | ix
      · obtain rfl := (Option.some.inj hj).symm
        have e0 : A.eval (.tmp 3) = .pointer (some ⟨w.heap.size, 0, none⟩) := hI.old 3 (by kernel_rfl)
        exact at_op rfl rfl (wp_load_row _ _ rfl _ e0 _ _ _ _ hg.row.row Try.underlying30 rfl info_l3 ⟨_, rfl, rfl, hg, Rel.refl _ _⟩)
      rcases ix with _ | ix
      · obtain rfl := (Option.some.inj hj).symm
        have e0 : A.eval (.tmp 24) = m.val := hI.get hd 2 24 rfl (by kernel_rfl)
        refine at_op rfl rfl (call_op rfl Try.func12 (by kernel_rfl) (by kernel_rfl) ?_)
        simp only [List.map_cons, List.map_nil, e0]
        refine (toMsg_any _ _).mono ?_
        rintro e W1 ⟨rfl, hb⟩
        exact ⟨_, rfl, _, rfl, rfl, hg.below hK1 hb, Rel.below hb⟩
      rcases ix with _ | ix
      · obtain rfl := (Option.some.inj hj).symm
        have e0 : (KSl l) (A.eval (.tmp 23)) W := hI.get hd 1 23 rfl (by kernel_rfl)
        have e1 : A.eval (.tmp 25) = m.val := hI.get hd 3 25 rfl (by kernel_rfl)
        refine at_op rfl rfl (call_op rfl Try.func11 (by kernel_rfl) (by kernel_rfl) ?_)
        simp only [List.map_cons, List.map_nil, e1]
        refine (inboxWith_spec _ l m _ e0).mono ?_
        rw [HL.out, HBB.out]
        rintro e W1 ⟨v', rfl, ho, hb⟩
        have hsb := hg.bel.size
        exact ⟨_, rfl, _, rfl, ⟨v', rfl, ho.mono (by have := hg.k.1; omega)⟩, hg.below hK1 hb, Rel.below hb⟩
      rcases ix with _ | ix
      · obtain rfl := (Option.some.inj hj).symm
        have e0 : (KTup w0.heap.size LL BB) (A.eval (.tmp 26)) W := hI.get hd 4 26 rfl (by kernel_rfl)
        exact at_op rfl rfl (move_op rfl ⟨_, rfl, e0, hg, Rel.refl _ _⟩)
      rcases ix with _ | ix
      · obtain rfl := (Option.some.inj hj).symm
        have e0 : (KTup w0.heap.size LL BB) (A.eval (.tmp 21)) W := hI.get hd 5 21 rfl (by kernel_rfl)
        obtain ⟨v', e0', ho⟩ := e0
        refine at_op rfl rfl (val_op (v := v') ?_ ⟨_, rfl, ho, hg, Rel.refl _ _⟩)
        unfold execOp
        simp only [List.getElem_toArray, List.getElem_cons_zero, List.getElem_cons_succ, e0']
        simp [go_sem]
      rcases ix with _ | ix
      · obtain rfl := (Option.some.inj hj).symm
        have e0 : (KTup w0.heap.size LL BB) (A.eval (.tmp 21)) W := hI.get hd 5 21 rfl (by kernel_rfl)
        obtain ⟨v', e0', ho⟩ := e0
        refine at_op rfl rfl (val_op (v := .bool BB) ?_ ⟨_, rfl, rfl, hg, Rel.refl _ _⟩)
        unfold execOp
        simp only [List.getElem_toArray, List.getElem_cons_zero, List.getElem_cons_succ, e0']
        simp [go_sem]
      rcases ix with _ | ix
      · obtain rfl := (Option.some.inj hj).symm
        have e0 : (KOwn w0.heap.size LL) (A.eval (.tmp 27)) W := hI.get hd 6 27 rfl (by kernel_rfl)
        exact at_op rfl rfl (assign_op rfl ⟨_, rfl, e0, hg, Rel.refl _ _⟩)
      rcases ix with _ | ix
      · obtain rfl := (Option.some.inj hj).symm
        have e0 : A.eval (.tmp 28) = .bool BB := hI.get hd 7 28 rfl (by kernel_rfl)
        exact at_op rfl rfl (assign_op rfl ⟨_, rfl, e0, hg, Rel.refl _ _⟩)
      omega
    case done =>
      intro A W hI
      have hg := hI.g
      obtain ⟨u5, hu5⟩ : ∃ u5, A.tmps.getD 6 undef = u5 := ⟨_, rfl⟩
      have hq5 : KOwn w0.heap.size LL (A.tmps.getD 6 undef) W := hI.slot 8 6 rfl rfl
      have s5 : A.tmps.getD 7 undef = .bool BB := hI.slot 9 7 rfl rfl
      rw [hu5] at hq5
      have hA := hI.frame [22, 23, 24, 25, 26, 21, 27, 28, 6, 7] (by kernel_rfl)
      rw [hA]
      simp only [putAll, List.foldl_cons, List.foldl_nil, hu5, s5, Act.put, List.setIfInBounds_toArray, List.set_cons_zero, List.set_cons_succ]
      clear hA hI hu5 s5 hG
      have A_0 := hg.sl
      have r_0 := hg.row
      have U_0 : OwnF fM w0.heap.size W u5 LL := hq5
      have UL : ∀ k, u5.ownBlock = some k → w0.heap.size ≤ k ∧ k < W.heap.size := U_0.lt
      have hB_0 := hg.bel
      have hkk := hg.k
      clear hg hq5
      go_wp2_with fail
      go_at_call 8
      refine (toMsgS_any _ l _ A_0 (by omega)).mono ?_
      rintro e w1 ⟨x0, rfl, hx0, hb1⟩
      have A_1 := A_0.below hb1
      have r_1 := r_0.below hb1
      have U_1 := U_0.below hb1
      have hB_1 := below_more hB_0 hb1
      have sz_1 := hb1.size
      clear A_0 r_0 U_0 hB_0
      have X_1 := hx0
      have XL := X_1.lt
      go_wp2_with (refine ld_l3 rfl rfl rfl r_1 ?_)
      go_at_call 12
      refine (toMsg_any _ _).mono ?_
      rintro e w2 ⟨rfl, hb2⟩
      have A_2 := A_1.below hb2
      have r_2 := r_1.below hb2
      have U_2 := U_1.below hb2
      have X_2 := X_1.below hb2
      have hB_2 := below_more hB_1 hb2
      have sz_2 := hb2.size
      clear A_1 r_1 U_1 X_1 hB_1
      go_wp2_with fail
      go_at_call 13
      refine (inboxWith_impl _ l m _ (X_2.sl okM)).mono ?_
      rw [HL.out, HBB.out]
      rintro e w3 ⟨g0, rfl, hg0, hb3⟩
      have A_3 := A_2.below hb3
      have r_3 := r_2.below hb3
      have U_3 := U_2.below hb3
      have X_3 := X_2.below hb3
      have hB_3 := below_more hB_2 hb3
      have sz_3 := hb3.size
      clear A_2 r_2 U_2 X_2 hB_2
      have G_3 := hg0
      have GL := G_3.lt
      go_wp2_with fail
      go_at_call 10
      refine (eqMsgS_same _ _ LL _ (G_3.sl okM) (U_3.sl okM)).mono ?_
      rintro e w4 ⟨rfl, hb4⟩
      have A_4 := A_3.below hb4
      have r_4 := r_3.below hb4
      have U_4 := U_3.below hb4
      have X_4 := X_3.below hb4
      have G_4 := G_3.below hb4
      have hB_4 := below_more hB_3 hb4
      have sz_4 := hb4.size
      clear A_3 r_3 U_3 X_3 G_3 hB_3
      go_wp2_with fail
      go_at_call 8
      refine (toMsgS_any _ l _ A_4 (by omega)).mono ?_
      rintro e w5 ⟨t5, rfl, ht5, hb5⟩
      have A_5 := A_4.below hb5
      have r_5 := r_4.below hb5
      have U_5 := U_4.below hb5
      have X_5 := X_4.below hb5
      have G_5 := G_4.below hb5
      have hB_5 := below_more hB_4 hb5
      have sz_5 := hb5.size
      clear A_4 r_4 U_4 X_4 G_4 hB_4
      go_wp2_with fail
      go_at_call 10
      refine (eqMsgS_same _ _ l _ (X_5.sl okM) (ht5.sl okM)).mono ?_
      rintro e w6 ⟨rfl, hb6⟩
      have A_6 := A_5.below hb6
      have r_6 := r_5.below hb6
      have U_6 := U_5.below hb6
      have X_6 := X_5.below hb6
      have G_6 := G_5.below hb6
      have hB_6 := below_more hB_5 hb6
      have sz_6 := hb6.size
      clear A_5 r_5 U_5 X_5 G_5 hB_5
      clear ht5
      go_wp2_with fail
      go_at_call 14
      refine (markMsgS_any _ l _ _ 1 X_6 (by omega) (by omega)).mono ?_
      rintro e w7 ⟨rfl, hm7, hg7⟩
      have A_7 := A_6.grown hg7 (fun h0 k hk e => by have := XL k hk; have := AL h0 k e; omega)
      have r_7 := r_6.keep (hg7.block _ r_6.lt (fun e => by have := XL _ e.symm; omega))
      have U_7 := U_6.grown hg7 (fun k hk e => by have := XL k hk; have := UL k e; omega)
      have X_7 := hm7
      have G_7 := G_6.grown hg7 (fun k hk e => by have := XL k hk; have := GL k e; omega)
      have hB_7 := hB_6.grown hg7 hB_6.size (fun k hk => by have := XL k hk; omega)
      have sz_7 := hg7.size
      clear A_6 r_6 U_6 G_6 hB_6 X_6
      go_wp2_with fail
      go_at_call 10
      refine (eqMsgS_same _ _ LL _ (G_7.sl okM) (U_7.sl okM)).mono ?_
      rintro e w8 ⟨rfl, hb8⟩
      have A_8 := A_7.below hb8
      have r_8 := r_7.below hb8
      have U_8 := U_7.below hb8
      have X_8 := X_7.below hb8
      have G_8 := G_7.below hb8
      have hB_8 := below_more hB_7 hb8
      have sz_8 := hb8.size
      clear A_7 r_7 U_7 X_7 G_7 hB_7
      go_wp2_with fail
      go_at_call 14
      refine (markMsgS_any _ LL _ _ 1 G_8 (by omega) (by omega)).mono ?_
      rintro e w9 ⟨rfl, hm9, hg9⟩
      have A_9 := A_8.grown hg9 (fun h0 k hk e => by have := GL k hk; have := AL h0 k e; omega)
      have r_9 := r_8.keep (hg9.block _ r_8.lt (fun e => by have := GL _ e.symm; omega))
      have U_9 := U_8.grown hg9 (fun k hk e => by have := GL k hk; have := UL k e; omega)
      have X_9 := X_8.grown hg9 (fun k hk e => by have := GL k hk; have := XL k e; omega)
      have G_9 := hm9
      have hB_9 := hB_8.grown hg9 hB_8.size (fun k hk => by have := GL k hk; omega)
      have sz_9 := hg9.size
      clear A_8 r_8 U_8 X_8 hB_8 G_8
      go_wp2_with fail
      go_at_call 15
      refine (heldMsgS_any _ LL.length _ 1 (G_9.sl okM) (by omega) (by omega)).mono ?_
      rintro e w10 ⟨rfl, rfl⟩
      go_wp2_with fail
      have hG : Gm w v l m (fun W => w10.heap.size ≤ W.heap.size ∧ OwnF fM w0.heap.size W u5 LL ∧ OwnF fM w2.heap.size W g0 (marks3 1 LL.length)) w10 := ⟨A_9, r_9, hB_9, Nat.le_refl _, U_9, G_9⟩
      have hK2 : ∀ W W' : World, (fun W : World => w10.heap.size ≤ W.heap.size ∧ OwnF fM w0.heap.size W u5 LL ∧ OwnF fM w2.heap.size W g0 (marks3 1 LL.length)) W → Below W.heap.size W W' → (fun W : World => w10.heap.size ≤ W.heap.size ∧ OwnF fM w0.heap.size W u5 LL ∧ OwnF fM w2.heap.size W g0 (marks3 1 LL.length)) W' := fun W W' h hb => ⟨Nat.le_trans h.1 hb.size, h.2.1.below hb, h.2.2.below hb⟩
      clear A_9 r_9 X_9 hm7 hm9 hx0 hg0
      refine region_by (by kernel_rfl) (by kernel_rfl) (fun W => Gm w v l m (fun W => w10.heap.size ≤ W.heap.size ∧ OwnF fM w0.heap.size W u5 LL ∧ OwnF fM w2.heap.size W g0 (marks3 1 LL.length)) W) (kinds [KIs (v), KSl l, KIs (m.val), KIs (m.val), KTup w10.heap.size LL BB, KTup w10.heap.size LL BB, KOwn w10.heap.size LL, KIs (.bool BB), KOwn w10.heap.size LL, KIs (.bool BB)]) (Rel fun _ => False) (by kernel_rfl) (kinds_mono ?mono) (hG.drew hK2) ?step ?done
      case mono =>
        intro K hK
        simp only [List.mem_cons, List.not_mem_nil, or_false] at hK
        rcases hK with rfl | rfl | rfl | rfl | rfl | rfl | rfl | rfl | rfl | rfl
        all_goals first | exact bears_is _ _ | exact bears_slF _ | exact bears_tup _ _ _ | exact bears_ownF _ _
      case step =>
        intro L ix o' A W hj hI hL hd
        have hin : ix < 10 := by
          by_cases hl : ix < 10
          · exact hl
          · simp [hl] at hj
        have hsz : A.tmps.size = 104 := hI.size
        have hg := hI.g
        rcases ix with _ | ix
        · obtain rfl := (Option.some.inj hj).symm
          have e0 : A.eval (.tmp 0) = v := hI.old 0 (by kernel_rfl)
          exact at_op rfl rfl (move_op rfl ⟨_, rfl, e0, hg, Rel.refl _ _⟩)
        rcases ix with _ | ix
        · obtain rfl := (Option.some.inj hj).symm
          have e0 : A.eval (.tmp 80) = v := hI.get hd 0 80 rfl (by kernel_rfl)
          refine at_op rfl rfl (call_op rfl Try.func8 (by kernel_rfl) (by kernel_rfl) ?_)
          simp only [List.map_cons, List.map_nil, e0]
          refine (toMsgS_any _ l _ hg.sl (by omega)).mono ?_
          rintro e W1 ⟨v', rfl, ho, hb⟩
          exact ⟨_, rfl, _, rfl, ho.sl okM, hg.below hK2 hb, Rel.below hb⟩
        rcases ix with _ | ix
        · obtain rfl := (Option.some.inj hj).symm
          have e0 : A.eval (.tmp 3) = .pointer (some ⟨w.heap.size, 0, none⟩) := hI.old 3 (by kernel_rfl)
          exact at_op rfl rfl (wp_load_row _ _ rfl _ e0 _ _ _ _ hg.row.row Try.underlying30 rfl info_l3 ⟨_, rfl, rfl, hg, Rel.refl _ _⟩)
        rcases ix with _ | ix
        · obtain rfl := (Option.some.inj hj).symm
          have e0 : A.eval (.tmp 82) = m.val := hI.get hd 2 82 rfl (by kernel_rfl)
          refine at_op rfl rfl (call_op rfl Try.func12 (by kernel_rfl) (by kernel_rfl) ?_)
          simp only [List.map_cons, List.map_nil, e0]
          refine (toMsg_any _ _).mono ?_
          rintro e W1 ⟨rfl, hb⟩
          exact ⟨_, rfl, _, rfl, rfl, hg.below hK2 hb, Rel.below hb⟩
        rcases ix with _ | ix
        · obtain rfl := (Option.some.inj hj).symm
          have e0 : (KSl l) (A.eval (.tmp 81)) W := hI.get hd 1 81 rfl (by kernel_rfl)
          have e1 : A.eval (.tmp 83) = m.val := hI.get hd 3 83 rfl (by kernel_rfl)
          refine at_op rfl rfl (call_op rfl Try.func13 (by kernel_rfl) (by kernel_rfl) ?_)
          simp only [List.map_cons, List.map_nil, e1]
          refine (inboxWith_impl _ l m _ e0).mono ?_
          rw [HL.out, HBB.out]
          rintro e W1 ⟨v', rfl, ho, hb⟩
          have hsb := hg.bel.size
          exact ⟨_, rfl, _, rfl, ⟨v', rfl, ho.mono (by have := hg.k.1; omega)⟩, hg.below hK2 hb, Rel.below hb⟩
        rcases ix with _ | ix
        · obtain rfl := (Option.some.inj hj).symm
          have e0 : (KTup w10.heap.size LL BB) (A.eval (.tmp 84)) W := hI.get hd 4 84 rfl (by kernel_rfl)
          exact at_op rfl rfl (move_op rfl ⟨_, rfl, e0, hg, Rel.refl _ _⟩)
        rcases ix with _ | ix
        · obtain rfl := (Option.some.inj hj).symm
          have e0 : (KTup w10.heap.size LL BB) (A.eval (.tmp 79)) W := hI.get hd 5 79 rfl (by kernel_rfl)
          obtain ⟨v', e0', ho⟩ := e0
          refine at_op rfl rfl (val_op (v := v') ?_ ⟨_, rfl, ho, hg, Rel.refl _ _⟩)
          unfold execOp
          simp only [List.getElem_toArray, List.getElem_cons_zero, List.getElem_cons_succ, e0']
          simp [go_sem]
        rcases ix with _ | ix
        · obtain rfl := (Option.some.inj hj).symm
          have e0 : (KTup w10.heap.size LL BB) (A.eval (.tmp 79)) W := hI.get hd 5 79 rfl (by kernel_rfl)
          obtain ⟨v', e0', ho⟩ := e0
          refine at_op rfl rfl (val_op (v := .bool BB) ?_ ⟨_, rfl, rfl, hg, Rel.refl _ _⟩)
          unfold execOp
          simp only [List.getElem_toArray, List.getElem_cons_zero, List.getElem_cons_succ, e0']
          simp [go_sem]
        rcases ix with _ | ix
        · obtain rfl := (Option.some.inj hj).symm
          have e0 : (KOwn w10.heap.size LL) (A.eval (.tmp 85)) W := hI.get hd 6 85 rfl (by kernel_rfl)
          exact at_op rfl rfl (assign_op rfl ⟨_, rfl, e0, hg, Rel.refl _ _⟩)
        rcases ix with _ | ix
        · obtain rfl := (Option.some.inj hj).symm
          have e0 : A.eval (.tmp 86) = .bool BB := hI.get hd 7 86 rfl (by kernel_rfl)
          exact at_op rfl rfl (assign_op rfl ⟨_, rfl, e0, hg, Rel.refl _ _⟩)
        omega
      case done =>
        intro A W hI
        have hg := hI.g
        obtain ⟨u24, hu24⟩ : ∃ u24, A.tmps.getD 14 undef = u24 := ⟨_, rfl⟩
        have hq24 : KOwn w10.heap.size LL (A.tmps.getD 14 undef) W := hI.slot 8 14 rfl rfl
        have s24 : A.tmps.getD 15 undef = .bool BB := hI.slot 9 15 rfl rfl
        rw [hu24] at hq24
        have hA := hI.frame [80, 81, 82, 83, 84, 79, 85, 86, 14, 15] (by kernel_rfl)
        rw [hA]
        simp only [putAll, List.foldl_cons, List.foldl_nil, hu24, s24, Act.put, List.setIfInBounds_toArray, List.set_cons_zero, List.set_cons_succ]
        clear hA hI hu24 s24 hG
        have hs2 : SlF fM W u24 LL := OwnF.sl okM hq24
        have hs1 := hg.k.2.1.sl okM
        have hs0 := hg.k.2.2
        have hB := hg.bel
        go_wp2_with fail
        go_at_call 10
        refine (eqMsgS_same _ _ LL _ hs2 hs1).mono ?_
        rintro e w12 ⟨rfl, hb12⟩
        have hs3 := hs0.below hb12
        go_wp2_with fail
        go_at_call 15
        refine (heldMsgS_any _ LL.length _ 1 (hs3.sl okM) (by omega) (by omega)).mono ?_
        rintro e w13 ⟨rfl, rfl⟩
        go_wp2
        go_ret
        exact ⟨rfl, below_more hB hb12⟩
  · have hsz : (1048576 : Int) < (l.length : Int) := by omega
    go_enter Try.func4, Try.ntmps4
    go_wp2_with (refine box_l3 rfl rfl hvv ?_; intro wb rb hBb; have hab := h.below hBb)
    go_at_call 6
    refine (szMsgS_any _ l _ _ hab (by omega)).mono ?_
    rintro e w0 ⟨rfl, rfl⟩
    rw [if_pos (show (1048576 : Int) < (l.length : Int) by omega)]
    go_wp2
    go_ret
    exact ⟨rfl, hBb⟩
end Go.Proofs.Ytlhmhhcjnildcaa.Mem
