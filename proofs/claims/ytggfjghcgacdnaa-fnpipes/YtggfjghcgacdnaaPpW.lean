/-
  Pipes: one more note, of the model and of the program.
-/
import Derived.Test.YtggfjghcgacdnaaPp
namespace Go.Proofs.Ytggfjghcgacdnaa.Mem
open Go.ChangeShapes Go.WideShapes Go.RowKit Base Num Slc Slf Rw Tmr Reg
set_option linter.unusedVariables false
set_option linter.unusedSimpArgs false
set_option maxRecDepth 20000

theorem Pp.ok_parts {p : Pp} (h : p.ok = true) : 1 ≤ p.c ∧ p.c ≤ 8 ∧ (p.l.length : Int) ≤ p.c ∧ p.l.all Nt.ok = true := by
  unfold Pp.ok inn at h
  simp only [Bool.and_eq_true, decide_eq_true_eq] at h
  exact ⟨h.2.1.1, h.2.1.2, h.2.2, h.1⟩
theorem PpSl.below {w w' : World} {v : Value} {p : Pp} (h : PpSl w v p) (hb : Below w.heap.size w w') : PpSl w' v p := by
  obtain ⟨u, e, h1⟩ := h
  exact ⟨u, e, h1.below hb⟩
theorem PpOwn.sl {B : TypeId} {base : Nat} {w : World} {v : Value} {p : Pp} (h : PpOwn B base w v p) : PpSl w v p := by
  obtain ⟨u, e, h1⟩ := h
  exact ⟨u, e, h1.sl okN⟩
theorem PpOwn.below {B : TypeId} {base : Nat} {w w' : World} {v : Value} {p : Pp} (h : PpOwn B base w v p) (hb : Below w.heap.size w w') : PpOwn B base w' v p := by
  obtain ⟨u, e, h1⟩ := h
  exact ⟨u, e, h1.below hb⟩
theorem pp_nul (B : TypeId) (base : Nat) (w : World) : PpOwn B base w (.agg #[.int .i64 0, .slice none 0 0]) Pp.nul := ⟨_, rfl, .inl ⟨rfl, rfl⟩⟩
theorem ret_pp {fn : Func} {R : Ending → World → Prop} {a : Act} {w : World} {p u : Tmp} (h : fn.results = #[.cell p 26, .tmp u]) {g : Nat} {T : TypeId} {x y : Value}
    (hp : a.tmps.getD p undef = .pointer (some ⟨g, 0, none⟩)) (hr : Row w g #[x, y] T) (hde : a.defers = []) {v : Value} (hv : a.tmps.getD u undef = v) (hR : R (.returned (.tuple #[.agg #[x, y], v])) w) : bodyPost Try.prog fn R .ret a w :=
  ret_row_tmp h hp hr Try.underlying26 rfl info_pp hde hv hR
section
variable {ops : Array Oper} {rest : List Oper} {o : Oper} {a : Act} {w : World} {Q : Exit → Act → World → Prop} {x y : Operand} {g k : Nat} {v : Value} {n : Nt}
theorem ld_ntg (hw : Region.wanted o (yielded ops a.tmps) = true) (ho : o.op = .load 30 x) (hx : a.eval x = .pointer (some ⟨g, 0, none⟩)) (hr : NtRow w g n)
    (h : wpList Try.prog ops Q rest (a.put o.dst n.val) w) : wpList Try.prog ops Q (o :: rest) a w :=
  wpList_step fun K hK => by
    rw [if_pos hw]
    exact wp_load_row _ _ ho _ hx _ _ _ _ hr.row Try.underlying30 rfl info_nt (hK _ _ h)
theorem oneN (hgd : o.guard = none) (ho : o.op = .buildSlice 24 1 #[(0, x)]) (hx : a.eval x = n.val)
    (h : ∀ w', OwnF fN w.heap.size w' (.slice (some ⟨w.heap.size, 0, none⟩) 1 1) [n] → Below w.heap.size w w' → wpList Try.prog ops Q rest (a.put o.dst (.slice (some ⟨w.heap.size, 0, none⟩) 1 1)) w') : wpList Try.prog ops Q (o :: rest) a w :=
  wpList_plain hgd fun _ hK => oneF_op okN ho hx (by kernel_rfl) fun w' h1 h2 => hK _ _ (h w' h1 h2)
end
set_option maxHeartbeats 1000000 in
theorem pipeWith_spec (v : Value) (p : Pp) (n : Nt) (w : World) (h : PpSl w v p) :
    Calls Try.prog 11 #[v, n.val] w fun e w' => ∃ v', e = .returned (.tuple #[v', .bool (pipeWith p n).2]) ∧ PpOwn fN.T w.heap.size w' v' (pipeWith p n).1 ∧ Below w.heap.size w w' := by
  obtain ⟨u, rfl, hu⟩ := h
  obtain ⟨c, l⟩ := p
  have hu : SlF fN w u l := hu
  obtain ⟨vv, hvv⟩ : ∃ vv, vv = Value.agg #[.int .i64 c, u] := ⟨_, rfl⟩
  obtain ⟨nn, hnn⟩ : ∃ nn, nn = n.val := ⟨_, rfl⟩
  show Calls Try.prog 11 #[.agg #[.int .i64 c, u], n.val] w _
  rw [← hvv, ← hnn]
  have hone := hu.one
  cases hok : Pp.ok ⟨c, l⟩
  · have HR : Hid (pipeWith ⟨c, l⟩ n = (Pp.nul, false)) := show _ = _ by unfold pipeWith; rw [hok]; rfl
    rw [HR.out]
    go_enter Try.func11, Try.ntmps11
    go_wp2_with (first
      | (refine box_pp rfl rfl hvv ?_; intro w1 r1 b1)
      | (refine box_nt rfl rfl hnn ?_; intro w2 r2 b2; have B2 := below_more b1 b2; have q2 := r1.below b2)
      | (refine al_pp rfl rfl ?_; intro w3 r3 b3; have B3 := below_more B2 b3; have q3 := q2.below b3; have l3 := r3.lt; have n3 := r2.below b3)
      | (refine ld_pp rfl rfl rfl q3 ?_)
      | (go_at_call 19; refine (pipeOk_spec _ ⟨c, l⟩ _ ⟨_, rfl, hu.below B3⟩).mono ?_; rintro e w4 ⟨rfl, b4⟩; rw [hok]; have B4 := below_more B3 b4; have q4 := r3.below b4)
      | (refine st_pp rfl rfl rfl rfl q4 rfl rfl ?_; rintro w5 r5 o5 -))
    refine ret_pp rfl rfl r5 rfl rfl ⟨_, rfl, pp_nul _ _ _, below_onto B4 o5 (by have := B2.size; omega)⟩
  have h4 := Pp.ok_parts hok
  obtain ⟨k1, k2, k3⟩ : 1 ≤ c ∧ c ≤ 8 ∧ (l.length : Int) ≤ c := ⟨h4.1, h4.2.1, h4.2.2.1⟩
  clear h4
  obtain ⟨kk, rfl⟩ : ∃ kk : Nat, c = (kk : Int) := ⟨c.toNat, by omega⟩
  obtain ⟨a, cp, rfl, -, hlc, hcm, -⟩ := id hu
  unfold maxLen at hcm
  by_cases hf : (kk : Int) ≤ (l.length : Int)
  · have HR : Hid (pipeWith ⟨kk, l⟩ n = (⟨kk, l⟩, false)) := show _ = _ by unfold pipeWith; rw [hok]; simp [hf]
    rw [HR.out]
    have hff : l.length = kk := by omega
    have HE : Hid (l.length = kk) := hff
    clear hff
    have hq : ((l.length : Int) == (kk : Int)) = true := by simp; omega
    have hd2 : decide (kk ≤ l.length) = true := by simp; omega
    have hd3 : decide (l.length = kk) = true := by simp; omega
    have hd4 : (l.length == kk) = true := by simp; omega
    go_enter Try.func11, Try.ntmps11
    go_wp2_with (first
      | (refine box_pp rfl rfl hvv ?_; intro w1 r1 b1)
      | (refine box_nt rfl rfl hnn ?_; intro w2 r2 b2; have B2 := below_more b1 b2; have q2 := r1.below b2)
      | (refine al_pp rfl rfl ?_; intro w3 r3 b3; have B3 := below_more B2 b3; have q3 := q2.below b3; have l3 := r3.lt; have n3 := r2.below b3)
      | (refine ld_pp rfl rfl rfl q3 ?_)
      | (go_at_call 19; refine (pipeOk_spec _ ⟨kk, l⟩ _ ⟨_, rfl, hu.below B3⟩).mono ?_; rintro e w4 ⟨rfl, b4⟩; rw [hok]; have B4 := below_more B3 b4; have z4 := r3.below b4; have q4 := q3.below b4; have n4 := n3.below b4; have l4 := z4.lt; have c40 : w4.cell? ⟨w.heap.size, 0, none⟩ = some (.int .i64 kk) := q4.cell 0; have c41 : w4.cell? ⟨w.heap.size, 1, none⟩ = some (.slice a l.length cp) := q4.cell 1)
      | (refine ld_pp rfl rfl rfl q4 ?_)
      | (go_at_call 34; refine (l12Copy_spec _ ⟨kk, l⟩ _ ⟨_, rfl, hu.below B4⟩ (by show l.length ≤ 1000; omega)).mono ?_; rintro e w5 ⟨u', rfl, ho5, b5⟩; have B5 := below_more B4 b5; have z5 := z4.below b5; have q5 := q4.below b5; have n5 := n4.below b5; have s5 := b5.size; have o5 := ho5.one okN)
      | (refine al_pp rfl rfl ?_; intro w6 r6 b6; have B6 := below_more B5 b6; have z6 := z5.below b6; have q6 := q5.below b6; have n6 := n5.below b6; have ho6 := ho5.below b6; have l6 := r6.lt)
      | (refine st_pp rfl rfl rfl rfl r6 rfl o5 ?_; rintro w7 r7 o7 -; have B7 := below_onto B6 o7 (by have := B4.size; omega); have z7 := z6.onto o7 (by omega); have q7 := q6.onto o7 (by have := B2.size; have := b3.size; have := b4.size; omega); have n7 := n6.onto o7 (by have := b3.size; have := b4.size; have := r2.lt; omega); have ho7 := ho6.onto o7 (fun e => by have := (ho5.lt _ e).2; omega); have c70 : w7.cell? ⟨w.heap.size, 0, none⟩ = some (.int .i64 kk) := q7.cell 0; have c71 : w7.cell? ⟨w.heap.size, 1, none⟩ = some (.slice a l.length cp) := q7.cell 1; have d70 : w7.cell? ⟨w5.heap.size, 0, none⟩ = some (.int .i64 kk) := r7.cell 0; have d71 : w7.cell? ⟨w5.heap.size, 1, none⟩ = some u' := r7.cell 1)
      | (refine ld_pp rfl rfl rfl r7 ?_)
      | (refine st_pp rfl rfl rfl rfl z7 rfl o5 ?_; rintro w9 r9 o9 -))
    refine ret_pp rfl rfl r9 rfl rfl ⟨_, rfl, ⟨_, rfl, ((ho7.onto o9 (fun e => by have := (ho5.lt _ e).1; omega)).toA).mono (by have := B4.size; omega)⟩, below_onto B7 o9 (by have := B2.size; omega)⟩
  have hq : ((l.length : Int) == (kk : Int)) = false := by simp; omega
  have hd : decide ((kk : Int) ≤ (l.length : Int)) = false := by simp; omega
  have hd2 : decide (kk ≤ l.length) = false := by simp; omega
  have hd3 : decide (l.length = kk) = false := by simp; omega
  have hd4 : (l.length == kk) = false := by simp; omega
  cases hn : n.ok
  · have HR : Hid (pipeWith ⟨kk, l⟩ n = (⟨kk, l⟩, false)) := show _ = _ by unfold pipeWith; rw [hok, hn]; simp
    rw [HR.out]
    go_enter Try.func11, Try.ntmps11
    go_wp2_with (first
      | (refine box_pp rfl rfl hvv ?_; intro w1 r1 b1)
      | (refine box_nt rfl rfl hnn ?_; intro w2 r2 b2; have B2 := below_more b1 b2; have q2 := r1.below b2)
      | (refine al_pp rfl rfl ?_; intro w3 r3 b3; have B3 := below_more B2 b3; have q3 := q2.below b3; have l3 := r3.lt; have n3 := r2.below b3)
      | (refine ld_pp rfl rfl rfl q3 ?_)
      | (go_at_call 19; refine (pipeOk_spec _ ⟨kk, l⟩ _ ⟨_, rfl, hu.below B3⟩).mono ?_; rintro e w4 ⟨rfl, b4⟩; rw [hok]; have B4 := below_more B3 b4; have z4 := r3.below b4; have q4 := q3.below b4; have n4 := n3.below b4; have l4 := z4.lt; have c40 : w4.cell? ⟨w.heap.size, 0, none⟩ = some (.int .i64 kk) := q4.cell 0; have c41 : w4.cell? ⟨w.heap.size, 1, none⟩ = some (.slice a l.length cp) := q4.cell 1)
      | (refine ld_pp rfl rfl rfl q4 ?_)
      | (go_at_call 34; refine (l12Copy_spec _ ⟨kk, l⟩ _ ⟨_, rfl, hu.below B4⟩ (by show l.length ≤ 1000; omega)).mono ?_; rintro e w5 ⟨u', rfl, ho5, b5⟩; have B5 := below_more B4 b5; have z5 := z4.below b5; have q5 := q4.below b5; have n5 := n4.below b5; have s5 := b5.size; have o5 := ho5.one okN)
      | (refine al_pp rfl rfl ?_; intro w6 r6 b6; have B6 := below_more B5 b6; have z6 := z5.below b6; have q6 := q5.below b6; have n6 := n5.below b6; have ho6 := ho5.below b6; have l6 := r6.lt)
      | (refine st_pp rfl rfl rfl rfl r6 rfl o5 ?_; rintro w7 r7 o7 -; have B7 := below_onto B6 o7 (by have := B4.size; omega); have z7 := z6.onto o7 (by omega); have q7 := q6.onto o7 (by have := B2.size; have := b3.size; have := b4.size; omega); have n7 := n6.onto o7 (by have := b3.size; have := b4.size; have := r2.lt; omega); have ho7 := ho6.onto o7 (fun e => by have := (ho5.lt _ e).2; omega); have c70 : w7.cell? ⟨w.heap.size, 0, none⟩ = some (.int .i64 kk) := q7.cell 0; have c71 : w7.cell? ⟨w.heap.size, 1, none⟩ = some (.slice a l.length cp) := q7.cell 1; have d70 : w7.cell? ⟨w5.heap.size, 0, none⟩ = some (.int .i64 kk) := r7.cell 0; have d71 : w7.cell? ⟨w5.heap.size, 1, none⟩ = some u' := r7.cell 1)
      | (refine ld_ntg rfl rfl rfl n7 ?_)
      | (go_at_call 17; refine (noteOk_spec n _).mono ?_; rintro e w8 ⟨rfl, b8⟩; rw [hn]; have B8 := below_more B7 b8; have z8 := z7.below b8; have r8 := r7.below b8; have n8 := n7.below b8; have ho8 := ho7.below b8; have l8 := r8.lt; have e81 : w8.cell? ⟨w5.heap.size, 1, none⟩ = some u' := r8.cell 1)
      | (refine ld_pp rfl rfl rfl r8 ?_)
      | (refine st_pp rfl rfl rfl rfl z8 rfl o5 ?_; rintro w9 r9 o9 -))
    refine ret_pp rfl rfl r9 rfl rfl ⟨_, rfl, ⟨_, rfl, ((ho8.onto o9 (fun e => by have := (ho5.lt _ e).1; omega)).toA).mono (by have := B4.size; omega)⟩, below_onto B8 o9 (by have := B2.size; omega)⟩
  · have HR : Hid (pipeWith ⟨kk, l⟩ n = (⟨kk, l ++ [n]⟩, true)) := show _ = _ by unfold pipeWith; rw [hok, hn]; simp [hf]
    rw [HR.out]
    go_enter Try.func11, Try.ntmps11
    go_wp2_with (first
      | (refine box_pp rfl rfl hvv ?_; intro w1 r1 b1)
      | (refine box_nt rfl rfl hnn ?_; intro w2 r2 b2; have B2 := below_more b1 b2; have q2 := r1.below b2)
      | (refine al_pp rfl rfl ?_; intro w3 r3 b3; have B3 := below_more B2 b3; have q3 := q2.below b3; have l3 := r3.lt; have n3 := r2.below b3)
      | (refine ld_pp rfl rfl rfl q3 ?_)
      | (go_at_call 19; refine (pipeOk_spec _ ⟨kk, l⟩ _ ⟨_, rfl, hu.below B3⟩).mono ?_; rintro e w4 ⟨rfl, b4⟩; rw [hok]; have B4 := below_more B3 b4; have z4 := r3.below b4; have q4 := q3.below b4; have n4 := n3.below b4; have l4 := z4.lt; have c40 : w4.cell? ⟨w.heap.size, 0, none⟩ = some (.int .i64 kk) := q4.cell 0; have c41 : w4.cell? ⟨w.heap.size, 1, none⟩ = some (.slice a l.length cp) := q4.cell 1)
      | (refine ld_pp rfl rfl rfl q4 ?_)
      | (go_at_call 34; refine (l12Copy_spec _ ⟨kk, l⟩ _ ⟨_, rfl, hu.below B4⟩ (by show l.length ≤ 1000; omega)).mono ?_; rintro e w5 ⟨u', rfl, ho5, b5⟩; have B5 := below_more B4 b5; have z5 := z4.below b5; have q5 := q4.below b5; have n5 := n4.below b5; have s5 := b5.size; have o5 := ho5.one okN)
      | (refine al_pp rfl rfl ?_; intro w6 r6 b6; have B6 := below_more B5 b6; have z6 := z5.below b6; have q6 := q5.below b6; have n6 := n5.below b6; have ho6 := ho5.below b6; have l6 := r6.lt)
      | (refine st_pp rfl rfl rfl rfl r6 rfl o5 ?_; rintro w7 r7 o7 -; have B7 := below_onto B6 o7 (by have := B4.size; omega); have z7 := z6.onto o7 (by omega); have q7 := q6.onto o7 (by have := B2.size; have := b3.size; have := b4.size; omega); have n7 := n6.onto o7 (by have := b3.size; have := b4.size; have := r2.lt; omega); have ho7 := ho6.onto o7 (fun e => by have := (ho5.lt _ e).2; omega); have c70 : w7.cell? ⟨w.heap.size, 0, none⟩ = some (.int .i64 kk) := q7.cell 0; have c71 : w7.cell? ⟨w.heap.size, 1, none⟩ = some (.slice a l.length cp) := q7.cell 1; have d70 : w7.cell? ⟨w5.heap.size, 0, none⟩ = some (.int .i64 kk) := r7.cell 0; have d71 : w7.cell? ⟨w5.heap.size, 1, none⟩ = some u' := r7.cell 1)
      | (refine ld_ntg rfl rfl rfl n7 ?_)
      | (go_at_call 17; refine (noteOk_spec n _).mono ?_; rintro e w8 ⟨rfl, b8⟩; rw [hn]; have B8 := below_more B7 b8; have z8 := z7.below b8; have r8 := r7.below b8; have n8 := n7.below b8; have ho8 := ho7.below b8; have l8 := r8.lt; have e81 : w8.cell? ⟨w5.heap.size, 1, none⟩ = some u' := r8.cell 1)
      | (refine ld_nt rfl rfl rfl n8 ?_)
      | (refine oneN rfl rfl rfl ?_; intro w9 ho9 b9; have B9 := below_more B8 b9; have r9 := r8.below b9; have z9 := z8.below b9; have h9 := ho8.below b9)
      | (at_builtin; refine appF okN rfl (.tmp 26) (.tmp 28) rfl w4.heap.size l [n] h9 (ho9.sl okN) (by simp; omega) (by have := b9.size; have := b8.size; have := b6.size; have := o7.size; omega) ?_; intro v' w10 ho10 g10; have o10 := ho10.one okN; have hne : ∀ k, u'.ownBlock = some k → k ≠ w5.heap.size ∧ k ≠ w2.heap.size ∧ w.heap.size ≤ k := (fun k hk => by have := ho5.lt k hk; have := B4.size; omega); have r10 := r9.keep (g10.block _ r9.lt (fun e => (hne _ e.symm).1 rfl)); have z10 := z9.keep (g10.block _ z9.lt (fun e => (hne _ e.symm).2.1 rfl)); have B10 := B9.grown g10 B9.size (fun k hk => (hne k hk).2.2))
      | (refine st_pp1 rfl rfl rfl rfl r10 o10 ?_; rintro w11 r11 o11 -; have z11 := z10.onto o11 (by omega); have B11 := below_onto B10 o11 (by have := B4.size; omega); have hq10 := ho10.not_row r10 (by decide); have ho11 := ho10.onto o11 hq10; have hq11 := ho11.not_row z11 (by decide))
      | (refine ld_pp rfl rfl rfl r11 ?_)
      | (refine st_pp rfl rfl rfl rfl z11 rfl o10 ?_; rintro w12 r12 o12 -))
    refine ret_pp rfl rfl r12 rfl rfl ⟨_, rfl, ⟨_, rfl, OwnA.mono (OwnF.toA (ho11.onto o12 hq11)) (by have := B4.size; omega)⟩, below_onto B11 o12 (by have := B2.size; omega)⟩
set_option maxHeartbeats 1000000 in
theorem pipeWith_impl (v : Value) (p : Pp) (n : Nt) (w : World) (h : PpSl w v p) :
    Calls Try.prog 10 #[v, n.val] w fun e w' => ∃ v', e = .returned (.tuple #[v', .bool (pipeWith p n).2]) ∧ PpOwn 83 w.heap.size w' v' (pipeWith p n).1 ∧ Below w.heap.size w w' := by
  obtain ⟨u, rfl, hu⟩ := h
  obtain ⟨c, l⟩ := p
  have hu : SlF fN w u l := hu
  obtain ⟨vv, hvv⟩ : ∃ vv, vv = Value.agg #[.int .i64 c, u] := ⟨_, rfl⟩
  obtain ⟨nn, hnn⟩ : ∃ nn, nn = n.val := ⟨_, rfl⟩
  show Calls Try.prog 10 #[.agg #[.int .i64 c, u], n.val] w _
  rw [← hvv, ← hnn]
  have hone := hu.one
  cases hok : Pp.ok ⟨c, l⟩
  · have HR : Hid (pipeWith ⟨c, l⟩ n = (Pp.nul, false)) := show _ = _ by unfold pipeWith; rw [hok]; rfl
    rw [HR.out]
    go_enter Try.func10, Try.ntmps10
    go_wp2_with (first
      | (refine box_pp rfl rfl hvv ?_; intro w1 r1 b1)
      | (refine box_nt rfl rfl hnn ?_; intro w2 r2 b2; have B2 := below_more b1 b2; have q2 := r1.below b2)
      | (refine al_pp rfl rfl ?_; intro w3 r3 b3; have B3 := below_more B2 b3; have q3 := q2.below b3; have l3 := r3.lt; have n3 := r2.below b3)
      | (refine ld_pp rfl rfl rfl q3 ?_)
      | (go_at_call 18; refine (pipeOk_impl _ ⟨c, l⟩ _ ⟨_, rfl, hu.below B3⟩).mono ?_; rintro e w4 ⟨rfl, b4⟩; rw [hok]; have B4 := below_more B3 b4; have q4 := r3.below b4)
      | (refine st_pp rfl rfl rfl rfl q4 rfl rfl ?_; rintro w5 r5 o5 -))
    refine ret_pp rfl rfl r5 rfl rfl ⟨_, rfl, pp_nul _ _ _, below_onto B4 o5 (by have := B2.size; omega)⟩
  have h4 := Pp.ok_parts hok
  obtain ⟨k1, k2, k3⟩ : 1 ≤ c ∧ c ≤ 8 ∧ (l.length : Int) ≤ c := ⟨h4.1, h4.2.1, h4.2.2.1⟩
  clear h4
  obtain ⟨kk, rfl⟩ : ∃ kk : Nat, c = (kk : Int) := ⟨c.toNat, by omega⟩
  obtain ⟨a, cp, rfl, -, hlc, hcm, -⟩ := id hu
  unfold maxLen at hcm
  by_cases hf : (kk : Int) ≤ (l.length : Int)
  · have HR : Hid (pipeWith ⟨kk, l⟩ n = (⟨kk, l⟩, false)) := show _ = _ by unfold pipeWith; rw [hok]; simp [hf]
    rw [HR.out]
    have hff : l.length = kk := by omega
    have HE : Hid (l.length = kk) := hff
    clear hff
    have hq : ((l.length : Int) == (kk : Int)) = true := by simp; omega
    have hd2 : decide (kk ≤ l.length) = true := by simp; omega
    have hd3 : decide (l.length = kk) = true := by simp; omega
    have hd4 : (l.length == kk) = true := by simp; omega
    go_enter Try.func10, Try.ntmps10
    go_wp2_with (first
      | (refine box_pp rfl rfl hvv ?_; intro w1 r1 b1)
      | (refine box_nt rfl rfl hnn ?_; intro w2 r2 b2; have B2 := below_more b1 b2; have q2 := r1.below b2)
      | (refine al_pp rfl rfl ?_; intro w3 r3 b3; have B3 := below_more B2 b3; have q3 := q2.below b3; have l3 := r3.lt; have n3 := r2.below b3)
      | (refine ld_pp rfl rfl rfl q3 ?_)
      | (go_at_call 18; refine (pipeOk_impl _ ⟨kk, l⟩ _ ⟨_, rfl, hu.below B3⟩).mono ?_; rintro e w4 ⟨rfl, b4⟩; rw [hok]; have B4 := below_more B3 b4; have z4 := r3.below b4; have q4 := q3.below b4; have n4 := n3.below b4; have l4 := z4.lt; have c40 : w4.cell? ⟨w.heap.size, 0, none⟩ = some (.int .i64 kk) := q4.cell 0; have c41 : w4.cell? ⟨w.heap.size, 1, none⟩ = some (.slice a l.length cp) := q4.cell 1)
      | (go_at_call 32; refine (pipeHolding_impl kk _ l _ (hu.below B4) (by omega) (by omega) (by omega)).mono ?_; rintro e w5 ⟨g', rfl, ho5, b5⟩; have B5 := below_more B4 b5; have z5 := z4.below b5; have q5 := q4.below b5; have n5 := n4.below b5; have s5 := b5.size)
      | (refine al_pp rfl rfl ?_; intro w6 r6 b6; have B6 := below_more B5 b6; have z6 := z5.below b6; have q6 := q5.below b6; have n6 := n5.below b6; have ho6 := ho5.below b6; have l6 := r6.lt)
      | (refine st_pp rfl rfl rfl rfl r6 rfl rfl ?_; rintro w7 r7 o7 -; have B7 := below_onto B6 o7 (by have := B4.size; omega); have z7 := z6.onto o7 (by omega); have q7 := q6.onto o7 (by have := B2.size; have := b3.size; have := b4.size; omega); have n7 := n6.onto o7 (by have := b3.size; have := b4.size; have := r2.lt; omega); have ho7 := ho6.onto o7 (fun e => by have := (ho5.lt _ e).2; omega); have c70 : w7.cell? ⟨w.heap.size, 0, none⟩ = some (.int .i64 kk) := q7.cell 0; have c71 : w7.cell? ⟨w.heap.size, 1, none⟩ = some (.slice a l.length cp) := q7.cell 1; have d70 : w7.cell? ⟨w5.heap.size, 0, none⟩ = some (.int .i64 kk) := r7.cell 0; have d71 : w7.cell? ⟨w5.heap.size, 1, none⟩ = some (Value.slice (some ⟨g', 0, none⟩) l.length kk) := r7.cell 1)
      | (refine ld_pp rfl rfl rfl r7 ?_)
      | (refine st_pp rfl rfl rfl rfl z7 rfl rfl ?_; rintro w9 r9 o9 -))
    refine ret_pp rfl rfl r9 rfl rfl ⟨_, rfl, ⟨_, rfl, ((ho7.onto o9 (fun e => by have := (ho5.lt _ e).1; omega))).mono (by have := B4.size; omega)⟩, below_onto B7 o9 (by have := B2.size; omega)⟩
  have hq : ((l.length : Int) == (kk : Int)) = false := by simp; omega
  have hd : decide ((kk : Int) ≤ (l.length : Int)) = false := by simp; omega
  have hd2 : decide (kk ≤ l.length) = false := by simp; omega
  have hd3 : decide (l.length = kk) = false := by simp; omega
  have hd4 : (l.length == kk) = false := by simp; omega
  cases hn : n.ok
  · have HR : Hid (pipeWith ⟨kk, l⟩ n = (⟨kk, l⟩, false)) := show _ = _ by unfold pipeWith; rw [hok, hn]; simp
    rw [HR.out]
    go_enter Try.func10, Try.ntmps10
    go_wp2_with (first
      | (refine box_pp rfl rfl hvv ?_; intro w1 r1 b1)
      | (refine box_nt rfl rfl hnn ?_; intro w2 r2 b2; have B2 := below_more b1 b2; have q2 := r1.below b2)
      | (refine al_pp rfl rfl ?_; intro w3 r3 b3; have B3 := below_more B2 b3; have q3 := q2.below b3; have l3 := r3.lt; have n3 := r2.below b3)
      | (refine ld_pp rfl rfl rfl q3 ?_)
      | (go_at_call 18; refine (pipeOk_impl _ ⟨kk, l⟩ _ ⟨_, rfl, hu.below B3⟩).mono ?_; rintro e w4 ⟨rfl, b4⟩; rw [hok]; have B4 := below_more B3 b4; have z4 := r3.below b4; have q4 := q3.below b4; have n4 := n3.below b4; have l4 := z4.lt; have c40 : w4.cell? ⟨w.heap.size, 0, none⟩ = some (.int .i64 kk) := q4.cell 0; have c41 : w4.cell? ⟨w.heap.size, 1, none⟩ = some (.slice a l.length cp) := q4.cell 1)
      | (go_at_call 32; refine (pipeHolding_impl kk _ l _ (hu.below B4) (by omega) (by omega) (by omega)).mono ?_; rintro e w5 ⟨g', rfl, ho5, b5⟩; have B5 := below_more B4 b5; have z5 := z4.below b5; have q5 := q4.below b5; have n5 := n4.below b5; have s5 := b5.size)
      | (refine al_pp rfl rfl ?_; intro w6 r6 b6; have B6 := below_more B5 b6; have z6 := z5.below b6; have q6 := q5.below b6; have n6 := n5.below b6; have ho6 := ho5.below b6; have l6 := r6.lt)
      | (refine st_pp rfl rfl rfl rfl r6 rfl rfl ?_; rintro w7 r7 o7 -; have B7 := below_onto B6 o7 (by have := B4.size; omega); have z7 := z6.onto o7 (by omega); have q7 := q6.onto o7 (by have := B2.size; have := b3.size; have := b4.size; omega); have n7 := n6.onto o7 (by have := b3.size; have := b4.size; have := r2.lt; omega); have ho7 := ho6.onto o7 (fun e => by have := (ho5.lt _ e).2; omega); have c70 : w7.cell? ⟨w.heap.size, 0, none⟩ = some (.int .i64 kk) := q7.cell 0; have c71 : w7.cell? ⟨w.heap.size, 1, none⟩ = some (.slice a l.length cp) := q7.cell 1; have d70 : w7.cell? ⟨w5.heap.size, 0, none⟩ = some (.int .i64 kk) := r7.cell 0; have d71 : w7.cell? ⟨w5.heap.size, 1, none⟩ = some (Value.slice (some ⟨g', 0, none⟩) l.length kk) := r7.cell 1)
      | (refine ld_ntg rfl rfl rfl n7 ?_)
      | (go_at_call 33; refine (noteWrong_impl n _).mono ?_; rintro e w8 ⟨rfl, b8⟩; rw [hn]; have B8 := below_more B7 b8; have z8 := z7.below b8; have r8 := r7.below b8; have n8 := n7.below b8; have ho8 := ho7.below b8; have l8 := r8.lt; have e81 : w8.cell? ⟨w5.heap.size, 1, none⟩ = some (Value.slice (some ⟨g', 0, none⟩) l.length kk) := r8.cell 1)
      | (refine ld_pp rfl rfl rfl r8 ?_)
      | (refine st_pp rfl rfl rfl rfl z8 rfl rfl ?_; rintro w9 r9 o9 -))
    refine ret_pp rfl rfl r9 rfl rfl ⟨_, rfl, ⟨_, rfl, ((ho8.onto o9 (fun e => by have := (ho5.lt _ e).1; omega))).mono (by have := B4.size; omega)⟩, below_onto B8 o9 (by have := B2.size; omega)⟩
  · have HR : Hid (pipeWith ⟨kk, l⟩ n = (⟨kk, l ++ [n]⟩, true)) := show _ = _ by unfold pipeWith; rw [hok, hn]; simp [hf]
    rw [HR.out]
    go_enter Try.func10, Try.ntmps10
    go_wp2_with (first
      | (refine box_pp rfl rfl hvv ?_; intro w1 r1 b1)
      | (refine box_nt rfl rfl hnn ?_; intro w2 r2 b2; have B2 := below_more b1 b2; have q2 := r1.below b2)
      | (refine al_pp rfl rfl ?_; intro w3 r3 b3; have B3 := below_more B2 b3; have q3 := q2.below b3; have l3 := r3.lt; have n3 := r2.below b3)
      | (refine ld_pp rfl rfl rfl q3 ?_)
      | (go_at_call 18; refine (pipeOk_impl _ ⟨kk, l⟩ _ ⟨_, rfl, hu.below B3⟩).mono ?_; rintro e w4 ⟨rfl, b4⟩; rw [hok]; have B4 := below_more B3 b4; have z4 := r3.below b4; have q4 := q3.below b4; have n4 := n3.below b4; have l4 := z4.lt; have c40 : w4.cell? ⟨w.heap.size, 0, none⟩ = some (.int .i64 kk) := q4.cell 0; have c41 : w4.cell? ⟨w.heap.size, 1, none⟩ = some (.slice a l.length cp) := q4.cell 1)
      | (go_at_call 32; refine (pipeHolding_impl kk _ l _ (hu.below B4) (by omega) (by omega) (by omega)).mono ?_; rintro e w5 ⟨g', rfl, ho5, b5⟩; have B5 := below_more B4 b5; have z5 := z4.below b5; have q5 := q4.below b5; have n5 := n4.below b5; have s5 := b5.size)
      | (refine al_pp rfl rfl ?_; intro w6 r6 b6; have B6 := below_more B5 b6; have z6 := z5.below b6; have q6 := q5.below b6; have n6 := n5.below b6; have ho6 := ho5.below b6; have l6 := r6.lt)
      | (refine st_pp rfl rfl rfl rfl r6 rfl rfl ?_; rintro w7 r7 o7 -; have B7 := below_onto B6 o7 (by have := B4.size; omega); have z7 := z6.onto o7 (by omega); have q7 := q6.onto o7 (by have := B2.size; have := b3.size; have := b4.size; omega); have n7 := n6.onto o7 (by have := b3.size; have := b4.size; have := r2.lt; omega); have ho7 := ho6.onto o7 (fun e => by have := (ho5.lt _ e).2; omega); have c70 : w7.cell? ⟨w.heap.size, 0, none⟩ = some (.int .i64 kk) := q7.cell 0; have c71 : w7.cell? ⟨w.heap.size, 1, none⟩ = some (.slice a l.length cp) := q7.cell 1; have d70 : w7.cell? ⟨w5.heap.size, 0, none⟩ = some (.int .i64 kk) := r7.cell 0; have d71 : w7.cell? ⟨w5.heap.size, 1, none⟩ = some (Value.slice (some ⟨g', 0, none⟩) l.length kk) := r7.cell 1)
      | (refine ld_ntg rfl rfl rfl n7 ?_)
      | (go_at_call 33; refine (noteWrong_impl n _).mono ?_; rintro e w8 ⟨rfl, b8⟩; rw [hn]; have B8 := below_more B7 b8; have z8 := z7.below b8; have r8 := r7.below b8; have n8 := n7.below b8; have ho8 := ho7.below b8; have l8 := r8.lt; have e81 : w8.cell? ⟨w5.heap.size, 1, none⟩ = some (Value.slice (some ⟨g', 0, none⟩) l.length kk) := r8.cell 1)
      | (refine ld_nt rfl rfl rfl n8 ?_)
      | (refine oneN rfl rfl rfl ?_; intro w9 ho9 b9; have B9 := below_more B8 b9; have r9 := r8.below b9; have z9 := z8.below b9; have h9 := ho8.below b9)
      | (at_builtin; refine appA okN rfl rfl rfl h9 rfl (ho9.sl okN) (by omega) ?_; intro w10 ho10 g10; have o10 : (Value.slice (some ⟨g', 0, none⟩) (l.length + 1) kk).oneCell' = true := rfl; have hne : ∀ k, (Value.slice (some ⟨g', 0, none⟩) l.length kk).ownBlock = some k → k ≠ w5.heap.size ∧ k ≠ w2.heap.size ∧ w.heap.size ≤ k := (fun k hk => by have := ho5.lt k hk; have := B4.size; omega); have r10 := r9.keep (g10.block _ r9.lt (fun e => (hne _ e.symm).1 rfl)); have z10 := z9.keep (g10.block _ z9.lt (fun e => (hne _ e.symm).2.1 rfl)); have B10 := B9.grown g10 B9.size (fun k hk => (hne k hk).2.2))
      | (refine st_pp1 rfl rfl rfl rfl r10 o10 ?_; rintro w11 r11 o11 -; have z11 := z10.onto o11 (by omega); have B11 := below_onto B10 o11 (by have := B4.size; omega); have hq10 := ho10.not_row r10 (by decide); have ho11 := ho10.onto o11 hq10; have hq11 := ho11.not_row z11 (by decide))
      | (refine ld_pp rfl rfl rfl r11 ?_)
      | (refine st_pp rfl rfl rfl rfl z11 rfl o10 ?_; rintro w12 r12 o12 -))
    refine ret_pp rfl rfl r12 rfl rfl ⟨_, rfl, ⟨_, rfl, OwnA.mono (ho11.onto o12 hq11) (by have := B4.size; omega)⟩, below_onto B11 o12 (by have := B2.size; omega)⟩
end Go.Proofs.Ytggfjghcgacdnaa.Mem
