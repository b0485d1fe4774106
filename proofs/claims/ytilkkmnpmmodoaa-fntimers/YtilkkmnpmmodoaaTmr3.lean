/-
  The timer after so many cycles, the program's and the document's model's.
-/
import Derived.Test.YtilkkmnpmmodoaaTmr2
import Derived.Test.YtilkkmnpmmodoaaRow
namespace Go.Proofs.Ytilkkmnpmmodoaa.Tmr
open Go.ChangeShapes Go.WideShapes Go.RowKit Base Num Slc Rw
set_option linter.unusedVariables false

theorem und_tm : Try.prog.underlying 25 = some (.struct #[{ name := "Count", type := 2, offset := 0, embedded := false, tag := "", pkgPath := "", byteOffset := 0 }, { name := "Value", type := 2, offset := 1, embedded := false, tag := "", pkgPath := "", byteOffset := 8 }, { name := "Start", type := 2, offset := 2, embedded := false, tag := "", pkgPath := "", byteOffset := 16 }, { name := "Mode", type := 2, offset := 3, embedded := false, tag := "", pkgPath := "", byteOffset := 24 }]) := by kernel_rfl
theorem info_tm : (Try.prog.info? 25).map (·.size) = some 4 := by kernel_rfl

section
variable {ops : Array Oper} {rest : List Oper} {o : Oper} {a : Act} {w : World} {Q : Exit → Act → World → Prop} {x y : Operand} {g : Nat} {c v s m : Int} {T : TypeId} {old : Array Value}
/-- A timer is stored into a block of its own. -/
theorem st_tm (hgd : o.guard = none) (ho : o.op = .store 25 x y) (hx : a.eval x = .pointer (some ⟨g, 0, none⟩)) (hy : a.eval y = .agg #[.int .i64 c, .int .i64 v, .int .i64 s, .int .i64 m]) (hr : Row w g old T) (hold : old.size = 4)
    (h : ∀ w', Row w' g #[.int .i64 c, .int .i64 v, .int .i64 s, .int .i64 m] T → Onto g w w' → w'.heap.size = w.heap.size → wpList Try.prog ops Q rest (a.put o.dst undef) w') : wpList Try.prog ops Q (o :: rest) a w :=
  st_row hgd _ x y ho hx hy hr info_tm hold (by simp [Value.oneCell']) h
theorem ld_tm (hgd : o.guard = none) (ho : o.op = .load 25 x) (hx : a.eval x = .pointer (some ⟨g, 0, none⟩)) (hr : Row w g #[.int .i64 c, .int .i64 v, .int .i64 s, .int .i64 m] T)
    (h : wpList Try.prog ops Q rest (a.put o.dst (.agg #[.int .i64 c, .int .i64 v, .int .i64 s, .int .i64 m])) w) : wpList Try.prog ops Q (o :: rest) a w :=
  ld_row hgd _ x ho hx hr und_tm rfl info_tm h
end
theorem Tm.after_no {t : Tm} {n : Int} (h : t.may n = false) : t.after n = (Tm.nul, 0) := by simp [Tm.after, h]
theorem Tm.may_false {t : Tm} {n : Int} (h : t.may n = false) (h1 : t.ok = true) (h2 : inn n 0 100000 = true) : 1000000000 < t.c + n := by
  simp only [Tm.may, h1, h2, Bool.true_and, decide_eq_false_iff_not] at h; omega

theorem box2 {w w1 : World} {A B : Array Value} {T U : TypeId} (hb : Below ((w.alloc (.cells A T)).alloc (.cells B U)).heap.size ((w.alloc (.cells A T)).alloc (.cells B U)) w1) :
    Row w1 w.heap.size A T ∧ Row w1 (w.heap.size + 1) B U ∧ Below w.heap.size w w1 :=
  ⟨((Row.new w A T).alloc _).below hb, (Row.new1 (w := w.alloc _) (n := w.heap.size + 1) (by simp) B U).below hb, (((Below.refl _ w).alloc (Nat.le_refl _) _).alloc (by simp) _).trans (hb.mono (by simp; omega))⟩
set_option maxHeartbeats 1000000 in
theorem timerAfter_no (t : Tm) (n : Int) (w : World) (hm : t.may n = false) :
    Calls Try.prog 9 #[t.val, .int .i64 n] w fun e w' => e = .returned (.tuple #[Tm.nul.val, .int .i64 0]) ∧ Below w.heap.size w w' := by
  have hA := fun h1 h2 => Tm.may_false hm h1 h2
  obtain ⟨c, v, s, m⟩ := t
  show Calls Try.prog 9 #[.agg #[.int .i64 c, .int .i64 v, .int .i64 s, .int .i64 m], .int .i64 n] w _
  cases hok : (Tm.mk c v s m).ok
  · go_enter Try.func9, Try.ntmps9
    go_wp2_with (first
      | (go_at_call 11; refine (timerOk_impl ⟨c, v, s, m⟩ _).mono ?_; rintro e w1 ⟨rfl, hb⟩; rw [hok]; obtain ⟨r1, r2, hB⟩ := box2 hb)
      | (refine st_tm rfl rfl rfl rfl r2 rfl ?_; intro w2 r3 ho2 hs2))
    refine ret_row_tmp rfl rfl r3 und_tm rfl info_tm rfl rfl ?_
    exact ⟨rfl, below_onto hB ho2 (by omega)⟩
  · obtain ⟨hc, hv, hs, hmm⟩ := Tm.ok_true hok
    simp only at hc hv hs hmm
    cases hi : inn n 0 100000
    · have hi' := inn_false hi
      by_cases h0 : n < 0
      · go_enter Try.func9, Try.ntmps9
        go_wp2_with (first
          | (go_at_call 11; refine (timerOk_impl ⟨c, v, s, m⟩ _).mono ?_; rintro e w1 ⟨rfl, hb⟩; rw [hok]; obtain ⟨r1, r2, hB⟩ := box2 hb)
          | (refine st_tm rfl rfl rfl rfl r2 rfl ?_; intro w2 r3 ho2 hs2))
        refine ret_row_tmp rfl rfl r3 und_tm rfl info_tm rfl rfl ?_
        exact ⟨rfl, below_onto hB ho2 (by omega)⟩
      · have h1 : 100000 < n := by omega
        go_enter Try.func9, Try.ntmps9
        go_wp2_with (first
          | (go_at_call 11; refine (timerOk_impl ⟨c, v, s, m⟩ _).mono ?_; rintro e w1 ⟨rfl, hb⟩; rw [hok]; obtain ⟨r1, r2, hB⟩ := box2 hb)
          | (refine st_tm rfl rfl rfl rfl r2 rfl ?_; intro w2 r3 ho2 hs2))
        refine ret_row_tmp rfl rfl r3 und_tm rfl info_tm rfl rfl ?_
        exact ⟨rfl, below_onto hB ho2 (by omega)⟩
    · have hi' := inn_true hi
      have h2 := hA hok hi
      simp only at h2
      have hk : clk (c + n) = false := by simp [clk, inn]; omega
      clear hm hA hi
      go_enter Try.func9, Try.ntmps9
      go_wp2_with (first
        | (go_at_call 11; refine (timerOk_impl ⟨c, v, s, m⟩ _).mono ?_; rintro e w1 ⟨rfl, hb⟩; rw [hok]; obtain ⟨r1, r2, hB⟩ := box2 hb; have c1 := r1.cell)
        | (go_at_call 24; refine (clockOk_impl _ _).mono ?_; rintro e w1 ⟨rfl, rfl⟩; rw [hk])
        | (refine st_tm rfl rfl rfl rfl r2 rfl ?_; intro w2 r3 ho2 hs2))
      refine ret_row_tmp rfl rfl r3 und_tm rfl info_tm rfl rfl ?_
      exact ⟨rfl, below_onto hB ho2 (by omega)⟩
theorem Tm.may_true {t : Tm} {n : Int} (h : t.may n = true) : t.ok = true ∧ (0 ≤ n ∧ n ≤ 100000) ∧ t.c + n ≤ 1000000000 := by
  simp only [Tm.may, Bool.and_eq_true, decide_eq_true_eq] at h
  exact ⟨h.1.1, inn_true h.1.2, h.2⟩
theorem rate_sign (m : Int) : rate m = 0 ∨ 0 < rate m := by rcases rate_some m with h | h | h | h | h <;> omega
set_option maxHeartbeats 1000000 in
theorem timerAfter_yes (t : Tm) (n : Int) (w : World) (hm : t.may n = true) :
    Calls Try.prog 9 #[t.val, .int .i64 n] w fun e w' => e = .returned (.tuple #[.agg #[.int .i64 (t.c + n), .int .i64 (ticks t.s (mults t.c n (rate t.m)).toNat (t.v, 0)).1, .int .i64 t.s, .int .i64 t.m], .int .i64 (ticks t.s (mults t.c n (rate t.m)).toNat (t.v, 0)).2]) ∧ Below w.heap.size w w' := by
  obtain ⟨hok, hn, hcn⟩ := Tm.may_true hm
  obtain ⟨c, v, s, m⟩ := t
  obtain ⟨hc, hv, hs, hmm⟩ := Tm.ok_true hok
  simp only at hc hv hs hmm hcn ⊢
  have hk : clk (c + n) = true := by simp [clk, inn]; omega
  have hM := mults_in c n (rate m) hc.1 hn.1 (rate_sign m)
  obtain ⟨k, hk'⟩ : ∃ k : Nat, mults c n (rate m) = (k : Int) := ⟨(mults c n (rate m)).toNat, by omega⟩
  have hk2 : (k : Int) ≤ 100000 := by omega
  have hkt : ((k : Int)).toNat = k := by omega
  rw [hk', hkt]
  have hR := fun w' => raised_impl v s k w' hv hs hk2
  generalize ticks s k (v, 0) = tk at hR ⊢
  show Calls Try.prog 9 #[.agg #[.int .i64 c, .int .i64 v, .int .i64 s, .int .i64 m], .int .i64 n] w _
  go_enter Try.func9, Try.ntmps9
  go_wp2_with (first
    | (go_at_call 11; refine (timerOk_impl ⟨c, v, s, m⟩ _).mono ?_; rintro e w1 ⟨rfl, hb⟩; rw [hok]; obtain ⟨r1, r2, hB⟩ := box2 hb; have c1 := r1.cell)
    | (go_at_call 24; refine (clockOk_impl _ _).mono ?_; rintro e w1 ⟨rfl, rfl⟩; rw [hk]))
  go_quiet ((first | (go_at_call 15; refine Calls.quiet_of_same (rateOf_impl _ _)) | (go_at_call 25; refine Calls.quiet_of (multiplesIn_impl _ _ _ _ hc.1 hn.1 hcn (rate_sign m)))))
  rw [hk']
  have R1 := r1.drewN nq
  have R2 := r2.drewN nq
  have hB' := below_drewN hB nq
  have f1 := R1.free
  clear r1 r2 hB hb
  go_wp2_with fail
  go_at_call 26
  refine (hR _).mono ?_
  rintro e w2 ⟨rfl, j, rfl⟩
  have q1 := (R1.set 0 (.int .i64 (c + n))).drewN j
  have q2 := (R2.setOther ⟨w.heap.size, 0, none⟩ (.int .i64 (c + n)) (by simp)).drewN j
  have hB2 := below_drewN (hB'.setCell (p := ⟨w.heap.size, 0, none⟩) (Nat.le_refl _) (.int .i64 (c + n))) j
  generalize ((w1.drewN nq).setCell ⟨w.heap.size, 0, none⟩ (.int .i64 (c + n))).drewN j = w3 at *
  simp only [List.setIfInBounds_toArray, List.set_cons_zero] at q1
  clear R1 R2 f1 c1 hB'
  have f1 := q1.free
  have c1 := q1.cell
  clear hR
  go_wp2_with (refine st_tm rfl rfl rfl rfl (q2.setOther ⟨w.heap.size, 1, none⟩ (.int .i64 tk.1) (by simp)) rfl ?_; intro w4 r4 ho4 hs4)
  refine ret_row_tmp rfl rfl r4 und_tm rfl info_tm rfl rfl ?_
  exact ⟨rfl, below_onto (hB2.setCell (p := ⟨w.heap.size, 1, none⟩) (Nat.le_refl _) (.int .i64 tk.1)) ho4 (by omega)⟩
theorem timerAfter_impl (t : Tm) (n : Int) (w : World) :
    Calls Try.prog 9 #[t.val, .int .i64 n] w fun e w' => e = .returned (.tuple #[(t.after n).1.val, .int .i64 (t.after n).2]) ∧ Below w.heap.size w w' := by
  cases hm : t.may n
  · rw [Tm.after_no hm]
    exact timerAfter_no t n w hm
  · have e : t.after n = (⟨t.c + n, (ticks t.s (mults t.c n (rate t.m)).toNat (t.v, 0)).1, t.s, t.m⟩, (ticks t.s (mults t.c n (rate t.m)).toNat (t.v, 0)).2) := by simp [Tm.after, hm]
    rw [e]
    exact timerAfter_yes t n w hm
end Go.Proofs.Ytilkkmnpmmodoaa.Tmr
