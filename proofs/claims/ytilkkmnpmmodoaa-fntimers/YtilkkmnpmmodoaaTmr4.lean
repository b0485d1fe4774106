/-
  The timer after so many cycles, as the document's model counts it; a timer taken over field by field, and two of them compared.
-/
import Derived.Test.YtilkkmnpmmodoaaTmr3
namespace Go.Proofs.Ytilkkmnpmmodoaa.Tmr
open Go.ChangeShapes Go.WideShapes Go.RowKit Base Num Slc Rw
set_option linter.unusedVariables false

set_option maxHeartbeats 1000000 in
theorem timerAfterS_no (t : Tm) (n : Int) (w : World) (hm : t.may n = false) :
    Calls Try.prog 10 #[t.val, .int .i64 n] w fun e w' => e = .returned (.tuple #[Tm.nul.val, .int .i64 0]) ∧ Below w.heap.size w w' := by
  have hA := fun h1 h2 => Tm.may_false hm h1 h2
  obtain ⟨c, v, s, m⟩ := t
  show Calls Try.prog 10 #[.agg #[.int .i64 c, .int .i64 v, .int .i64 s, .int .i64 m], .int .i64 n] w _
  cases hok : (Tm.mk c v s m).ok
  · go_enter Try.func10, Try.ntmps10
    go_wp2_with (first
      | (go_at_call 12; refine (timerOk_spec ⟨c, v, s, m⟩ _).mono ?_; rintro e w1 ⟨rfl, hb⟩; rw [hok]; obtain ⟨r1, r2, hB⟩ := box2 hb)
      | (refine st_tm rfl rfl rfl rfl r2 rfl ?_; intro w2 r3 ho2 hs2))
    refine ret_row_tmp rfl rfl r3 und_tm rfl info_tm rfl rfl ?_
    exact ⟨rfl, below_onto hB ho2 (by omega)⟩
  · obtain ⟨hc, hv, hs, hmm⟩ := Tm.ok_true hok
    simp only at hc hv hs hmm
    cases hi : inn n 0 100000
    · go_enter Try.func10, Try.ntmps10
      go_wp2_with (first
        | (go_at_call 12; refine (timerOk_spec ⟨c, v, s, m⟩ _).mono ?_; rintro e w1 ⟨rfl, hb⟩; rw [hok]; obtain ⟨r1, r2, hB⟩ := box2 hb)
        | (go_at_call 27; refine (in_any _ _ _ _).mono ?_; rintro e w1 ⟨rfl, rfl⟩; rw [hi])
        | (refine st_tm rfl rfl rfl rfl r2 rfl ?_; intro w2 r3 ho2 hs2))
      refine ret_row_tmp rfl rfl r3 und_tm rfl info_tm rfl rfl ?_
      exact ⟨rfl, below_onto hB ho2 (by omega)⟩
    · have hi' := inn_true hi
      have h2 := hA hok hi
      simp only at h2
      clear hm hA
      go_enter Try.func10, Try.ntmps10
      go_wp2_with (first
        | (go_at_call 12; refine (timerOk_spec ⟨c, v, s, m⟩ _).mono ?_; rintro e w1 ⟨rfl, hb⟩; rw [hok]; obtain ⟨r1, r2, hB⟩ := box2 hb; have c1 := r1.cell)
        | (go_at_call 27; refine (in_any _ _ _ _).mono ?_; rintro e w1 ⟨rfl, rfl⟩; rw [hi])
        | (refine st_tm rfl rfl rfl rfl r2 rfl ?_; intro w2 r3 ho2 hs2))
      refine ret_row_tmp rfl rfl r3 und_tm rfl info_tm rfl rfl ?_
      exact ⟨rfl, below_onto hB ho2 (by omega)⟩
set_option maxHeartbeats 1000000 in
theorem timerAfterS_yes (t : Tm) (n : Int) (w : World) (hm : t.may n = true) :
    Calls Try.prog 10 #[t.val, .int .i64 n] w fun e w' => e = .returned (.tuple #[.agg #[.int .i64 (t.c + n), .int .i64 (ticks t.s (mults t.c n (rate t.m)).toNat (t.v, 0)).1, .int .i64 t.s, .int .i64 t.m], .int .i64 (ticks t.s (mults t.c n (rate t.m)).toNat (t.v, 0)).2]) ∧ Below w.heap.size w w' := by
  obtain ⟨hok, hn, hcn⟩ := Tm.may_true hm
  obtain ⟨c, v, s, m⟩ := t
  obtain ⟨hc, hv, hs, hmm⟩ := Tm.ok_true hok
  simp only at hc hv hs hmm hcn ⊢
  have hi : inn n 0 100000 = true := by simp [inn]; omega
  have hM := mults_in c n (rate m) hc.1 hn.1 (rate_sign m)
  obtain ⟨k, hk'⟩ : ∃ k : Nat, mults c n (rate m) = (k : Int) := ⟨(mults c n (rate m)).toNat, by omega⟩
  have hk2 : (k : Int) ≤ 100000 := by omega
  have hkt : ((k : Int)).toNat = k := by omega
  rw [hk', hkt]
  show Calls Try.prog 10 #[.agg #[.int .i64 c, .int .i64 v, .int .i64 s, .int .i64 m], .int .i64 n] w _
  rcases rate_sign m with hr | hr
  · have hk0 : k = 0 := by rw [hr] at hk'; simp [mults] at hk'; omega
    subst hk0
    show Calls Try.prog 10 #[.agg #[.int .i64 c, .int .i64 v, .int .i64 s, .int .i64 m], .int .i64 n] w fun e w' => e = .returned (.tuple #[.agg #[.int .i64 (c + n), .int .i64 v, .int .i64 s, .int .i64 m], .int .i64 0]) ∧ Below w.heap.size w w'
    go_enter Try.func10, Try.ntmps10
    go_wp2_with (first
        | (go_at_call 12; refine (timerOk_spec ⟨c, v, s, m⟩ _).mono ?_; rintro e w1 ⟨rfl, hb⟩; rw [hok]; obtain ⟨r1, r2, hB⟩ := box2 hb; have c1 := r1.cell; have l1 := r1.lt; have l2 := r2.lt)
        | (go_at_call 27; refine (in_any _ _ _ _).mono ?_; rintro e w1 ⟨rfl, rfl⟩; rw [hi])
        | (go_at_call 16; refine (rateOf_spec _ _).mono ?_; rintro e w1 ⟨rfl, rfl⟩; rw [hr])
        | (refine st_tm rfl rfl rfl rfl (r2.alloc _) rfl ?_; intro w2 r3 ho2 hs2))
    refine ret_row_tmp rfl rfl r3 und_tm rfl info_tm rfl rfl ?_
    exact ⟨rfl, below_onto (hB.alloc hB.size _) ho2 (by omega)⟩
  · have e : mults c n (rate m) = (c + n) / rate m - c / rate m := by unfold mults; rw [if_neg (by omega)]
    rw [e] at hk' hM
    generalize hR : rate m = R at *
    have q1 := quo_pos (a := c + n) (r := R) (by omega)
    have q2 := quo_pos (a := c) (r := R) (by omega)
    have d1 : 0 ≤ (c + n) / R := Int.ediv_nonneg (by omega) (by omega)
    have d2 : (c + n) / R ≤ c + n := Int.ediv_le_self _ (by omega)
    have d3 : 0 ≤ c / R := Int.ediv_nonneg (by omega) (by omega)
    have d4 : c / R ≤ c := Int.ediv_le_self _ (by omega)
    have hne : ¬ R = 0 := by omega
    generalize htk : ticks s k (v, 0) = tk
    go_enter Try.func10, Try.ntmps10
    go_wp2_with (first
        | (go_at_call 12; refine (timerOk_spec ⟨c, v, s, m⟩ _).mono ?_; rintro e w1 ⟨rfl, hb⟩; rw [hok]; obtain ⟨r1, r2, hB⟩ := box2 hb; have c1 := r1.cell; have l1 := r1.lt; have l2 := r2.lt)
        | (go_at_call 27; refine (in_any _ _ _ _).mono ?_; rintro e w1 ⟨rfl, rfl⟩; rw [hi])
        | (go_at_call 16; refine (rateOf_spec _ _).mono ?_; rintro e w1 ⟨rfl, rfl⟩; rw [hR]))
    go_quiet (fail)
    have R7 := (Row.new w1 #[.int .i64 (c + n), .int .i64 v, .int .i64 s, .int .i64 m] 25).drewN nq
    have R1 := (r1.alloc (.cells #[.int .i64 (c + n), .int .i64 v, .int .i64 s, .int .i64 m] 25)).drewN nq
    have R2 := (r2.alloc (.cells #[.int .i64 (c + n), .int .i64 v, .int .i64 s, .int .i64 m] 25)).drewN nq
    have hB7 := below_drewN (hB.alloc hB.size (.cells #[.int .i64 (c + n), .int .i64 v, .int .i64 s, .int .i64 m] 25)) nq
    have hsz := hB.size
    clear hb r1 r2 hB c1
    go_wp2_with fail
    go_loopw [8, 9] (fun r kk wr => ∃ (j : Nat) (v' r' : Int), r = .int .i64 r' ∧ kk = .int .i64 (j : Int) ∧ Row wr w1.heap.size #[.int .i64 (c + n), .int .i64 v', .int .i64 s, .int .i64 m] 25 ∧
        Row wr w.heap.size #[.int .i64 c, .int .i64 v, .int .i64 s, .int .i64 m] 25 ∧ Row wr (w.heap.size + 1) #[.int .i64 0, .int .i64 0, .int .i64 0, .int .i64 0] 25 ∧ Below w.heap.size w wr ∧
        ticks s j (v', r') = tk ∧ (0 ≤ v' ∧ v' ≤ 255) ∧ (0 ≤ r' ∧ r' + j ≤ 100000)) (fun _ kk _ => (intOf kk).toNat)
    case atStart => exact ⟨k, v, 0, rfl, rfl, R7, R1, R2, hB7, htk, hv, by omega⟩
    case round =>
      obtain ⟨j, v', r', rfl, rfl, x7, x1, x2, hBr, ht, hv', hr'⟩ := hrel
      clear R7 R1 R2 hB7 htk hk' e q1 q2 d1 d2 d3 d4 hM
      have c7 := x7.cell
      have c1 := x1.cell
      have f7 := x7.free
      rcases j with _ | j
      · go_wp2_with (refine st_tm rfl rfl rfl rfl x2 rfl ?_; intro w2 r3 ho2 hs2)
        refine ret_row_tmp rfl rfl r3 und_tm rfl info_tm rfl rfl ?_
        have ht' : (v', r') = tk := ht
        subst ht'
        exact ⟨rfl, below_onto hBr ho2 (by omega)⟩
      · have HT : Hid (ticks s (j + 1) (v', r') = tk) := ht
        clear ht
        have hj : (0 : Int) < ((j + 1 : Nat) : Int) := by omega
        by_cases h6 : v' + 1 = 256
        · go_wp2
          go_roundw
          case rel =>
            refine ⟨j, s, r' + 1, rfl, by simp, by simpa using (x7.set 1 (.int .i64 256)).set 1 (.int .i64 s), (x1.setOther _ _ ?_).setOther _ _ ?_, (x2.setOther _ _ ?_).setOther _ _ ?_, (hBr.setCell (p := ⟨w1.heap.size, 1, none⟩) hsz _).setCell (p := ⟨w1.heap.size, 1, none⟩) hsz _, ?_, hs, by omega⟩
            all_goals (try (simp; omega))
            have := HT.out
            simpa [ticks, tick, h6] using this
          case measure => simp [intOf]
        · go_wp2
          go_roundw
          case rel =>
            refine ⟨j, v' + 1, r', rfl, by simp, by simpa using x7.set 1 (.int .i64 (v' + 1)), x1.setOther _ _ ?_, x2.setOther _ _ ?_, hBr.setCell (p := ⟨w1.heap.size, 1, none⟩) hsz _, ?_, by omega, by omega⟩
            all_goals (try (simp; omega))
            have := HT.out
            simpa [ticks, tick, h6] using this
          case measure => simp [intOf]
theorem timerAfter_spec (t : Tm) (n : Int) (w : World) :
    Calls Try.prog 10 #[t.val, .int .i64 n] w fun e w' => e = .returned (.tuple #[(t.after n).1.val, .int .i64 (t.after n).2]) ∧ Below w.heap.size w w' := by
  cases hm : t.may n
  · rw [Tm.after_no hm]
    exact timerAfterS_no t n w hm
  · have e : t.after n = (⟨t.c + n, (ticks t.s (mults t.c n (rate t.m)).toNat (t.v, 0)).1, t.s, t.m⟩, (ticks t.s (mults t.c n (rate t.m)).toNat (t.v, 0)).2) := by simp [Tm.after, hm]
    rw [e]
    exact timerAfterS_yes t n w hm

/-- What a struct of four numbers came in as. -/
theorem toTimer_any (t : Tm) (w : World) :
    Calls Try.prog 17 #[t.val] w fun e w' => e = .returned t.val ∧ Below w.heap.size w w' := by
  obtain ⟨c, v, s, m⟩ := t
  show Calls Try.prog 17 #[.agg #[.int .i64 c, .int .i64 v, .int .i64 s, .int .i64 m]] w _
  go_enter Try.func17, Try.ntmps17
  go_wp2
  refine ret_row rfl rfl ((Row.new1 (w := w.alloc _) (n := w.heap.size + 1) (by simp) #[.int .i64 c, .int .i64 v, .int .i64 s, .int .i64 m] 25).alloc _) und_tm rfl info_tm rfl ?_
  exact ⟨rfl, (((Below.refl _ _).alloc (Nat.le_refl _) _).alloc (by simp) _).alloc (by simp; omega) _⟩
def Tm.eq (t u : Tm) : Bool := t.c == u.c && t.v == u.v && t.s == u.s && t.m == u.m
theorem eqTimer_same (t : Tm) (w : World) :
    Calls Try.prog 18 #[t.val, t.val] w fun e w' => e = .returned (.bool true) ∧ Below w.heap.size w w' := by
  obtain ⟨c, v, s, m⟩ := t
  show Calls Try.prog 18 #[.agg #[.int .i64 c, .int .i64 v, .int .i64 s, .int .i64 m], .agg #[.int .i64 c, .int .i64 v, .int .i64 s, .int .i64 m]] w _
  go_enter Try.func18, Try.ntmps18
  go_wp2
  go_ret
  exact ⟨rfl, ((Below.refl _ _).alloc (Nat.le_refl _) _).alloc (by simp) _⟩
end Go.Proofs.Ytilkkmnpmmodoaa.Tmr
