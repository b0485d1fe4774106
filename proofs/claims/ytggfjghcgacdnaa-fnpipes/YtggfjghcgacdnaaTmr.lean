/-
  The timer: what chapter 4's functions answer, the program's and the document's model's, for every timer and every number of cycles. The timer's rate, its ticks at once, and the timer after so many cycles, the program's and the document's model's. The timer after so many cycles, the program's and the document's model's. The timer after so many cycles, as the document's model counts it; a timer taken over field by field, and two of them compared.
-/
import Derived.Test.YtggfjghcgacdnaaNum
import Derived.Test.YtggfjghcgacdnaaBase
import Derived.Deep.QuietTactic
import Derived.BigQuiet
import Derived.Laws.ResultCell
import Derived.Test.YtggfjghcgacdnaaSlc
import Derived.Test.YtggfjghcgacdnaaRow
namespace Go.Proofs.Ytggfjghcgacdnaa.Tmr
open Go.ChangeShapes Go.WideShapes Go.RowKit Base Num
set_option linter.unusedVariables false
set_option maxRecDepth 20000

def inn (n lo hi : Int) : Bool := decide (lo ≤ n) && decide (n ≤ hi)
theorem inn_true {n lo hi : Int} (h : inn n lo hi = true) : lo ≤ n ∧ n ≤ hi := by simpa [inn] using h
theorem inn_false {n lo hi : Int} (h : inn n lo hi = false) : n < lo ∨ hi < n := by
  simp only [inn, Bool.and_eq_false_iff, decide_eq_false_iff_not] at h; omega
theorem in_any (n lo hi : Int) (w : World) :
    Calls Try.prog 37 #[.int .i64 n, .int .i64 lo, .int .i64 hi] w fun e w' => e = .returned (.bool (inn n lo hi)) ∧ w' = w := by
  by_cases h0 : lo ≤ n
  · go_enter Try.func37, Try.ntmps37
    go_wp2
    go_ret
    exact ⟨ret_bool (by simp [inn, h0]), rfl⟩
  · go_enter Try.func37, Try.ntmps37
    go_wp2
    go_ret
    exact ⟨ret_bool (by simp [inn]; omega), rfl⟩

/-- A timer: count, value, start, mode. -/
structure Tm where
  c : Int
  v : Int
  s : Int
  m : Int
def Tm.val (t : Tm) : Value := .agg #[.int .i64 t.c, .int .i64 t.v, .int .i64 t.s, .int .i64 t.m]
def Tm.nul : Tm := ⟨0, 0, 0, 0⟩
def clk (n : Int) : Bool := inn n 0 1000000000
def mok (n : Int) : Bool := inn n 0 7
def Tm.ok (t : Tm) : Bool := clk t.c && bok t.v && bok t.s && mok t.m
def rate (m : Int) : Int := if m = 4 then 16 else if m = 5 then 32 else if m = 6 then 64 else if m = 7 then 128 else 0
/-- One tick: the value and how often it came round. -/
def tick (s : Int) (x : Int × Int) : Int × Int := if x.1 + 1 = 256 then (s, x.2 + 1) else (x.1 + 1, x.2)
def ticks (s : Int) : Nat → Int × Int → Int × Int
  | 0, x => x
  | k + 1, x => ticks s k (tick s x)
/-- The multiples of the rate that are come to. -/
def mults (c n r : Int) : Int := if r = 0 then 0 else (c + n) / r - c / r
def Tm.may (t : Tm) (n : Int) : Bool := t.ok && inn n 0 100000 && decide (t.c + n ≤ 1000000000)
def Tm.after (t : Tm) (n : Int) : Tm × Int :=
  if t.may n then (⟨t.c + n, (ticks t.s (mults t.c n (rate t.m)).toNat (t.v, 0)).1, t.s, t.m⟩, (ticks t.s (mults t.c n (rate t.m)).toNat (t.v, 0)).2) else (Tm.nul, 0)

theorem ticks_add (s : Int) : ∀ (k j : Nat) (x : Int × Int), ticks s (k + j) x = ticks s j (ticks s k x)
  | 0, j, x => by simp [ticks]
  | k + 1, j, x => by
    have e : k + 1 + j = (k + j) + 1 := by omega
    rw [e]
    simp only [ticks]
    exact ticks_add s k j _
theorem ticks_off (s : Int) : ∀ (k : Nat) (v r : Int), ticks s k (v, r) = ((ticks s k (v, 0)).1, r + (ticks s k (v, 0)).2)
  | 0, v, r => by simp [ticks]
  | k + 1, v, r => by
    simp only [ticks, tick]
    split
    · rw [ticks_off s k s (r + 1), ticks_off s k s (0 + 1)]
      simp only [Prod.mk.injEq, true_and]; omega
    · exact ticks_off s k _ r
theorem ticks_in (s : Int) (hs : 0 ≤ s ∧ s ≤ 255) : ∀ (k : Nat) (v r : Int), 0 ≤ v ∧ v ≤ 255 → 0 ≤ (ticks s k (v, r)).1 ∧ (ticks s k (v, r)).1 ≤ 255
  | 0, v, r, h => h
  | k + 1, v, r, h => by
    simp only [ticks, tick]
    split
    · exact ticks_in s hs k _ _ hs
    · exact ticks_in s hs k _ _ (by omega)
theorem ticks_most (s : Int) : ∀ (k : Nat) (v r : Int), r ≤ (ticks s k (v, r)).2 ∧ (ticks s k (v, r)).2 ≤ r + k
  | 0, v, r => by simp [ticks]
  | k + 1, v, r => by
    simp only [ticks, tick]
    split
    · have := ticks_most s k s (r + 1); omega
    · have := ticks_most s k (v + 1) r; omega
/-- All ticks at once. -/
theorem ticks_eq (s : Int) (hs : 0 ≤ s ∧ s ≤ 255) : ∀ (k : Nat) (v r : Int), 0 ≤ v ∧ v ≤ 255 →
    ticks s k (v, r) = if v + k - 256 < 0 then (v + k, r) else (s + (v + k - 256) % (256 - s), r + 1 + (v + k - 256) / (256 - s))
  | 0, v, r, h => by
    rw [if_pos (by omega)]
    simp [ticks]
  | k + 1, v, r, h => by
    simp only [ticks, tick]
    split
    · rename_i hv
      rw [ticks_eq s hs k s (r + 1) hs]
      split
      · rw [if_neg (by omega)]
        have e : v + ((k + 1 : Nat) : Int) - 256 = k := by omega
        rw [e, Int.emod_eq_of_lt (by omega) (by omega), Int.ediv_eq_zero_of_lt (by omega) (by omega)]
        simp
      · rw [if_neg (by omega)]
        have e : v + ((k + 1 : Nat) : Int) - 256 = (s + k - 256) + (256 - s) := by omega
        rw [e, Int.add_emod_right, Int.add_ediv_of_dvd_right (Int.dvd_refl _), Int.ediv_self (by omega)]
        simp only [Prod.mk.injEq, true_and]; omega
    · rw [ticks_eq s hs k (v + 1) r (by omega)]
      have e : v + 1 + (k : Int) = v + ((k + 1 : Nat) : Int) := by omega
      rw [e]
theorem rate_some (m : Int) : rate m = 0 ∨ rate m = 16 ∨ rate m = 32 ∨ rate m = 64 ∨ rate m = 128 := by
  unfold rate; split
  · omega
  · split
    · omega
    · split
      · omega
      · split <;> omega

theorem clk_true {n : Int} (h : clk n = true) : 0 ≤ n ∧ n ≤ 1000000000 := inn_true h
theorem mok_true {n : Int} (h : mok n = true) : 0 ≤ n ∧ n ≤ 7 := inn_true h
theorem Tm.ok_true {t : Tm} (h : t.ok = true) : (0 ≤ t.c ∧ t.c ≤ 1000000000) ∧ (0 ≤ t.v ∧ t.v ≤ 255) ∧ (0 ≤ t.s ∧ t.s ≤ 255) ∧ (0 ≤ t.m ∧ t.m ≤ 7) := by
  simp only [Tm.ok, Bool.and_eq_true] at h
  exact ⟨clk_true h.1.1.1, bok_true h.1.1.2, bok_true h.1.2, mok_true h.2⟩
theorem Tm.ok_mk {t : Tm} (hc : 0 ≤ t.c ∧ t.c ≤ 1000000000) (hv : 0 ≤ t.v ∧ t.v ≤ 255) (hs : 0 ≤ t.s ∧ t.s ≤ 255) (hm : 0 ≤ t.m ∧ t.m ≤ 7) : t.ok = true := by
  simp [Tm.ok, clk, mok, inn, bok, hc, hv, hs, hm]
end Go.Proofs.Ytggfjghcgacdnaa.Tmr
namespace Go.Proofs.Ytggfjghcgacdnaa.Tmr
open Go.ChangeShapes Go.WideShapes Go.RowKit Base Num Slc
set_option linter.unusedVariables false
set_option maxRecDepth 20000

theorem quo_pos {a r : Int} (ha : 0 ≤ a) : a.tdiv r = a / r := Int.tdiv_eq_ediv_of_nonneg ha
theorem rem_pos {a r : Int} (ha : 0 ≤ a) : a.tmod r = a % r := Int.tmod_eq_emod_of_nonneg ha
theorem mults_in (c n r : Int) (hc : 0 ≤ c) (hn : 0 ≤ n) (hr : r = 0 ∨ 0 < r) : 0 ≤ mults c n r ∧ mults c n r ≤ n := by
  unfold mults
  split
  · omega
  · rename_i h
    have hr : 0 < r := by omega
    have h1 : c / r ≤ (c + n) / r := Int.ediv_le_ediv hr (by omega)
    have h2 : (c + n) / r ≤ c / r + n := by
      have h3 : (c + n) / r ≤ (c + n * r) / r := Int.ediv_le_ediv hr (by
        have : n * 1 ≤ n * r := Int.mul_le_mul_of_nonneg_left (by omega) hn
        omega)
      rwa [Int.add_mul_ediv_right _ _ (by omega)] at h3
    omega
end Go.Proofs.Ytggfjghcgacdnaa.Tmr
namespace Go.Proofs.Ytggfjghcgacdnaa.Tmr
open Go.ChangeShapes Go.WideShapes Go.RowKit Base Num Slc Rw
set_option linter.unusedVariables false
set_option maxRecDepth 20000

section
variable {ops : Array Oper} {rest : List Oper} {o : Oper} {a : Act} {w : World} {Q : Exit → Act → World → Prop} {x y : Operand} {g : Nat} {c v s m : Int} {T : TypeId} {old : Array Value}
end
theorem Tm.after_no {t : Tm} {n : Int} (h : t.may n = false) : t.after n = (Tm.nul, 0) := by simp [Tm.after, h]
theorem Tm.may_false {t : Tm} {n : Int} (h : t.may n = false) (h1 : t.ok = true) (h2 : inn n 0 100000 = true) : 1000000000 < t.c + n := by
  simp only [Tm.may, h1, h2, Bool.true_and, decide_eq_false_iff_not] at h; omega

theorem Tm.may_true {t : Tm} {n : Int} (h : t.may n = true) : t.ok = true ∧ (0 ≤ n ∧ n ≤ 100000) ∧ t.c + n ≤ 1000000000 := by
  simp only [Tm.may, Bool.and_eq_true, decide_eq_true_eq] at h
  exact ⟨h.1.1, inn_true h.1.2, h.2⟩
theorem rate_sign (m : Int) : rate m = 0 ∨ 0 < rate m := by rcases rate_some m with h | h | h | h | h <;> omega
end Go.Proofs.Ytggfjghcgacdnaa.Tmr
namespace Go.Proofs.Ytggfjghcgacdnaa.Tmr
open Go.ChangeShapes Go.WideShapes Go.RowKit Base Num Slc Rw
set_option linter.unusedVariables false
set_option maxRecDepth 20000

def Tm.eq (t u : Tm) : Bool := t.c == u.c && t.v == u.v && t.s == u.s && t.m == u.m
end Go.Proofs.Ytggfjghcgacdnaa.Tmr
