/-
  The law of the timer: after so many cycles, and then so many, it is as after all of them; one by one, too.
-/
import Derived.Test.YtilkkmnpmmodoaaTmrLaw
import Derived.Deep.RegionHeld3
namespace Go.Proofs.Ytilkkmnpmmodoaa.Tmr
open Go.ChangeShapes Go.WideShapes Go.RowKit Base Num Slc Rw Draw Reg
set_option linter.unusedVariables false

theorem mults_add (c k m r : Int) (hr : r = 0 ∨ 0 < r) (hc : 0 ≤ c) (hk : 0 ≤ k) (hm : 0 ≤ m) : (mults c (k + m) r).toNat = (mults c k r).toNat + (mults (c + k) m r).toNat := by
  have h1 := mults_in c k r hc hk hr
  have h2 := mults_in (c + k) m r (by omega) hm hr
  have h3 : mults c (k + m) r = mults c k r + mults (c + k) m r := by
    unfold mults
    split
    · omega
    · have e : c + (k + m) = c + k + m := by omega
      rw [e]; omega
  omega
theorem Tm.may_mk {t : Tm} {n : Int} (h : t.ok = true) (h0 : 0 ≤ n) (h1 : n ≤ 100000) (h2 : t.c + n ≤ 1000000000) : t.may n = true := by
  simp [Tm.may, h, inn, h0, h1, h2]
theorem Tm.after_yes {t : Tm} {n : Int} (h : t.may n = true) : t.after n = (⟨t.c + n, (ticks t.s (mults t.c n (rate t.m)).toNat (t.v, 0)).1, t.s, t.m⟩, (ticks t.s (mults t.c n (rate t.m)).toNat (t.v, 0)).2) := by simp [Tm.after, h]
theorem Tm.after_ok {t : Tm} {n : Int} (h : t.may n = true) : (t.after n).1.ok = true := by
  obtain ⟨hok, hn, hcn⟩ := Tm.may_true h
  obtain ⟨hc, hv, hs, hm⟩ := Tm.ok_true hok
  rw [Tm.after_yes h]
  exact Tm.ok_mk (by simp; omega) (ticks_in t.s hs _ _ _ hv) hs hm
theorem Tm.after_most {t : Tm} {n : Int} (h : t.may n = true) : 0 ≤ (t.after n).2 ∧ (t.after n).2 ≤ n := by
  obtain ⟨hok, hn, hcn⟩ := Tm.may_true h
  obtain ⟨hc, hv, hs, hm⟩ := Tm.ok_true hok
  rw [Tm.after_yes h]
  have h1 := mults_in t.c n (rate t.m) hc.1 hn.1 (rate_sign t.m)
  have h2 := ticks_most t.s (mults t.c n (rate t.m)).toNat t.v 0
  simp only
  omega
/-- So many cycles, and then so many. -/
theorem Tm.after_add {t : Tm} {k m : Int} (h : t.ok = true) (hk : 0 ≤ k) (hm : 0 ≤ m) (h1 : k + m ≤ 100000) (h2 : t.c + (k + m) ≤ 1000000000) :
    (t.after k).1.after m = ((t.after (k + m)).1, (t.after (k + m)).2 - (t.after k).2) := by
  have y1 : t.may k = true := Tm.may_mk h hk (by omega) (by omega)
  have y2 : t.may (k + m) = true := Tm.may_mk h (by omega) h1 h2
  have o1 := Tm.after_ok y1
  have e1 := Tm.after_yes y1
  have y3 : (t.after k).1.may m = true := Tm.may_mk o1 hm (by omega) (by rw [e1]; simp; omega)
  obtain ⟨hc, hv, hs, hmm⟩ := Tm.ok_true h
  rw [Tm.after_yes y3, Tm.after_yes y2, e1]
  simp only
  rw [mults_add t.c k m _ (rate_sign t.m) hc.1 hk hm, ticks_add]
  generalize hx : ticks t.s (mults t.c k (rate t.m)).toNat (t.v, 0) = x
  obtain ⟨x1, x2⟩ := x
  rw [ticks_off t.s _ x1 x2]
  simp only [Prod.mk.injEq, Tm.mk.injEq, and_true]
  refine ⟨by omega, by omega⟩
theorem Tm.after_zero {t : Tm} (h : t.ok = true) : t.after 0 = (t, 0) := by
  obtain ⟨hc, hv, hs, hm⟩ := Tm.ok_true h
  have y : t.may 0 = true := Tm.may_mk h (by omega) (by omega) (by omega)
  rw [Tm.after_yes y]
  have e : mults t.c 0 (rate t.m) = 0 := by
    have := mults_in t.c 0 (rate t.m) hc.1 (by omega) (rate_sign t.m)
    omega
  rw [e]
  simp [ticks]
end Go.Proofs.Ytilkkmnpmmodoaa.Tmr
