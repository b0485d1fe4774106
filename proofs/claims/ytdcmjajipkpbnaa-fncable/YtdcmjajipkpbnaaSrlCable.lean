/-
  A byte that is led against one that waits is changed for it in eight beats: the two ports, beat by beat.
-/
import Derived.Test.YtdcmjajipkpbnaaSrl4
namespace Go.Proofs.Ytdcmjajipkpbnaa.Srl
open Go.ChangeShapes Go.WideShapes Go.RowKit Base Num Slc Rw Reg Tmr
set_option linter.unusedVariables false

/-- What p has become behind k bits of q. -/
def mix (k : Nat) (p q : Int) : Int := (p * 2 ^ k) % 256 + q / 2 ^ (8 - k)
theorem mix_in (k : Nat) (hk : k ≤ 8) (p q : Int) (hp : 0 ≤ p ∧ p ≤ 255) (hq : 0 ≤ q ∧ q ≤ 255) : 0 ≤ mix k p q ∧ mix k p q ≤ 255 := by
  obtain rfl | rfl | rfl | rfl | rfl | rfl | rfl | rfl | rfl : k = 0 ∨ k = 1 ∨ k = 2 ∨ k = 3 ∨ k = 4 ∨ k = 5 ∨ k = 6 ∨ k = 7 ∨ k = 8 := by omega
  all_goals simp [mix]
  all_goals omega
theorem mix_zero (p q : Int) (hp : 0 ≤ p ∧ p ≤ 255) (hq : 0 ≤ q ∧ q ≤ 255) : mix 0 p q = p := by simp [mix] <;> omega
theorem mix_eight (p q : Int) : mix 8 p q = q := by simp [mix]
theorem half (x N : Int) (h0 : 0 ≤ x) (hN : 0 < N) : x % (2 * N) = (x / N % 2) * N + x % N ∧ x / N = 2 * (x / (2 * N)) + x / N % 2 := by
  have e1 : x / (2 * N) = x / N / 2 := by rw [Int.mul_comm, Int.ediv_ediv_of_nonneg (by omega)]
  have e2 : x = N * (x / N) + x % N := (Int.mul_ediv_add_emod x N).symm
  have e3 : x = 2 * N * (x / (2 * N)) + x % (2 * N) := (Int.mul_ediv_add_emod x (2 * N)).symm
  have e4 : x / N = 2 * (x / N / 2) + x / N % 2 := (Int.mul_ediv_add_emod (x / N) 2).symm
  refine ⟨?_, by rw [e1]; exact e4⟩
  rw [e1] at e3
  have e5 : N * (x / N) = N * (2 * (x / N / 2)) + N * (x / N % 2) := by rw [← Int.mul_add, ← e4]
  have e6 : 2 * N * (x / N / 2) = N * (2 * (x / N / 2)) := by rw [Int.mul_comm 2 N, Int.mul_assoc]
  have e7 : x / N % 2 * N = N * (x / N % 2) := Int.mul_comm _ _
  omega
theorem mix_step (k : Nat) (hk : k < 8) (p q : Int) (hp : 0 ≤ p ∧ p ≤ 255) (hq : 0 ≤ q ∧ q ≤ 255) : 2 * mix k p q % 256 + mix k q p / 128 = mix (k + 1) p q := by
  obtain rfl | rfl | rfl | rfl | rfl | rfl | rfl | rfl : k = 0 ∨ k = 1 ∨ k = 2 ∨ k = 3 ∨ k = 4 ∨ k = 5 ∨ k = 6 ∨ k = 7 := by omega
  · have g1 : mix 0 p q = p % 256 * 1 + q / 256 := by simp [mix] <;> omega
    have g2 : mix 0 q p = q % 256 * 1 + p / 256 := by simp [mix] <;> omega
    have g3 : mix (0 + 1) p q = p % 128 * 2 + q / 128 := by simp [mix] <;> omega
    obtain ⟨s1, _⟩ := half p 128 hp.1 (by omega)
    obtain ⟨s2, s3⟩ := half q 128 hq.1 (by omega)
    have f1 : 0 ≤ p % 128 ∧ p % 128 < 128 := by omega
    have f2 : 0 ≤ q % 128 ∧ q % 128 < 128 := by omega
    have f3 : 0 ≤ p / 256 ∧ p / 256 < 1 := by omega
    have f4 : 0 ≤ q / 256 ∧ q / 256 < 1 := by omega
    have f5 : 0 ≤ p / 128 % 2 ∧ p / 128 % 2 ≤ 1 := by omega
    have f6 : 0 ≤ q / 128 % 2 ∧ q / 128 % 2 ≤ 1 := by omega
    simp only [show (2 * 128 : Int) = 256 from rfl] at s1 s2 s3
    rw [g1, g2, g3, s1, s2, s3]
    generalize p / 128 % 2 = x1 at *
    generalize q / 128 % 2 = x2 at *
    generalize p % 128 = x3 at *
    generalize q % 128 = x4 at *
    generalize p / 256 = x5 at *
    generalize q / 256 = x6 at *
    clear s1 s2 s3 g1 g2 g3
    omega
  · have g1 : mix 1 p q = p % 128 * 2 + q / 128 := by simp [mix] <;> omega
    have g2 : mix 1 q p = q % 128 * 2 + p / 128 := by simp [mix] <;> omega
    have g3 : mix (1 + 1) p q = p % 64 * 4 + q / 64 := by simp [mix] <;> omega
    obtain ⟨s1, _⟩ := half p 64 hp.1 (by omega)
    obtain ⟨s2, s3⟩ := half q 64 hq.1 (by omega)
    have f1 : 0 ≤ p % 64 ∧ p % 64 < 64 := by omega
    have f2 : 0 ≤ q % 64 ∧ q % 64 < 64 := by omega
    have f3 : 0 ≤ p / 128 ∧ p / 128 < 2 := by omega
    have f4 : 0 ≤ q / 128 ∧ q / 128 < 2 := by omega
    have f5 : 0 ≤ p / 64 % 2 ∧ p / 64 % 2 ≤ 1 := by omega
    have f6 : 0 ≤ q / 64 % 2 ∧ q / 64 % 2 ≤ 1 := by omega
    simp only [show (2 * 64 : Int) = 128 from rfl] at s1 s2 s3
    rw [g1, g2, g3, s1, s2, s3]
    generalize p / 64 % 2 = x1 at *
    generalize q / 64 % 2 = x2 at *
    generalize p % 64 = x3 at *
    generalize q % 64 = x4 at *
    generalize p / 128 = x5 at *
    generalize q / 128 = x6 at *
    clear s1 s2 s3 g1 g2 g3
    omega
  · have g1 : mix 2 p q = p % 64 * 4 + q / 64 := by simp [mix] <;> omega
    have g2 : mix 2 q p = q % 64 * 4 + p / 64 := by simp [mix] <;> omega
    have g3 : mix (2 + 1) p q = p % 32 * 8 + q / 32 := by simp [mix] <;> omega
    obtain ⟨s1, _⟩ := half p 32 hp.1 (by omega)
    obtain ⟨s2, s3⟩ := half q 32 hq.1 (by omega)
    have f1 : 0 ≤ p % 32 ∧ p % 32 < 32 := by omega
    have f2 : 0 ≤ q % 32 ∧ q % 32 < 32 := by omega
    have f3 : 0 ≤ p / 64 ∧ p / 64 < 4 := by omega
    have f4 : 0 ≤ q / 64 ∧ q / 64 < 4 := by omega
    have f5 : 0 ≤ p / 32 % 2 ∧ p / 32 % 2 ≤ 1 := by omega
    have f6 : 0 ≤ q / 32 % 2 ∧ q / 32 % 2 ≤ 1 := by omega
    simp only [show (2 * 32 : Int) = 64 from rfl] at s1 s2 s3
    rw [g1, g2, g3, s1, s2, s3]
    generalize p / 32 % 2 = x1 at *
    generalize q / 32 % 2 = x2 at *
    generalize p % 32 = x3 at *
    generalize q % 32 = x4 at *
    generalize p / 64 = x5 at *
    generalize q / 64 = x6 at *
    clear s1 s2 s3 g1 g2 g3
    omega
  · have g1 : mix 3 p q = p % 32 * 8 + q / 32 := by simp [mix] <;> omega
    have g2 : mix 3 q p = q % 32 * 8 + p / 32 := by simp [mix] <;> omega
    have g3 : mix (3 + 1) p q = p % 16 * 16 + q / 16 := by simp [mix] <;> omega
    obtain ⟨s1, _⟩ := half p 16 hp.1 (by omega)
    obtain ⟨s2, s3⟩ := half q 16 hq.1 (by omega)
    have f1 : 0 ≤ p % 16 ∧ p % 16 < 16 := by omega
    have f2 : 0 ≤ q % 16 ∧ q % 16 < 16 := by omega
    have f3 : 0 ≤ p / 32 ∧ p / 32 < 8 := by omega
    have f4 : 0 ≤ q / 32 ∧ q / 32 < 8 := by omega
    have f5 : 0 ≤ p / 16 % 2 ∧ p / 16 % 2 ≤ 1 := by omega
    have f6 : 0 ≤ q / 16 % 2 ∧ q / 16 % 2 ≤ 1 := by omega
    simp only [show (2 * 16 : Int) = 32 from rfl] at s1 s2 s3
    rw [g1, g2, g3, s1, s2, s3]
    generalize p / 16 % 2 = x1 at *
    generalize q / 16 % 2 = x2 at *
    generalize p % 16 = x3 at *
    generalize q % 16 = x4 at *
    generalize p / 32 = x5 at *
    generalize q / 32 = x6 at *
    clear s1 s2 s3 g1 g2 g3
    omega
  · have g1 : mix 4 p q = p % 16 * 16 + q / 16 := by simp [mix] <;> omega
    have g2 : mix 4 q p = q % 16 * 16 + p / 16 := by simp [mix] <;> omega
    have g3 : mix (4 + 1) p q = p % 8 * 32 + q / 8 := by simp [mix] <;> omega
    obtain ⟨s1, _⟩ := half p 8 hp.1 (by omega)
    obtain ⟨s2, s3⟩ := half q 8 hq.1 (by omega)
    have f1 : 0 ≤ p % 8 ∧ p % 8 < 8 := by omega
    have f2 : 0 ≤ q % 8 ∧ q % 8 < 8 := by omega
    have f3 : 0 ≤ p / 16 ∧ p / 16 < 16 := by omega
    have f4 : 0 ≤ q / 16 ∧ q / 16 < 16 := by omega
    have f5 : 0 ≤ p / 8 % 2 ∧ p / 8 % 2 ≤ 1 := by omega
    have f6 : 0 ≤ q / 8 % 2 ∧ q / 8 % 2 ≤ 1 := by omega
    simp only [show (2 * 8 : Int) = 16 from rfl] at s1 s2 s3
    rw [g1, g2, g3, s1, s2, s3]
    generalize p / 8 % 2 = x1 at *
    generalize q / 8 % 2 = x2 at *
    generalize p % 8 = x3 at *
    generalize q % 8 = x4 at *
    generalize p / 16 = x5 at *
    generalize q / 16 = x6 at *
    clear s1 s2 s3 g1 g2 g3
    omega
  · have g1 : mix 5 p q = p % 8 * 32 + q / 8 := by simp [mix] <;> omega
    have g2 : mix 5 q p = q % 8 * 32 + p / 8 := by simp [mix] <;> omega
    have g3 : mix (5 + 1) p q = p % 4 * 64 + q / 4 := by simp [mix] <;> omega
    obtain ⟨s1, _⟩ := half p 4 hp.1 (by omega)
    obtain ⟨s2, s3⟩ := half q 4 hq.1 (by omega)
    have f1 : 0 ≤ p % 4 ∧ p % 4 < 4 := by omega
    have f2 : 0 ≤ q % 4 ∧ q % 4 < 4 := by omega
    have f3 : 0 ≤ p / 8 ∧ p / 8 < 32 := by omega
    have f4 : 0 ≤ q / 8 ∧ q / 8 < 32 := by omega
    have f5 : 0 ≤ p / 4 % 2 ∧ p / 4 % 2 ≤ 1 := by omega
    have f6 : 0 ≤ q / 4 % 2 ∧ q / 4 % 2 ≤ 1 := by omega
    simp only [show (2 * 4 : Int) = 8 from rfl] at s1 s2 s3
    rw [g1, g2, g3, s1, s2, s3]
    generalize p / 4 % 2 = x1 at *
    generalize q / 4 % 2 = x2 at *
    generalize p % 4 = x3 at *
    generalize q % 4 = x4 at *
    generalize p / 8 = x5 at *
    generalize q / 8 = x6 at *
    clear s1 s2 s3 g1 g2 g3
    omega
  · have g1 : mix 6 p q = p % 4 * 64 + q / 4 := by simp [mix] <;> omega
    have g2 : mix 6 q p = q % 4 * 64 + p / 4 := by simp [mix] <;> omega
    have g3 : mix (6 + 1) p q = p % 2 * 128 + q / 2 := by simp [mix] <;> omega
    obtain ⟨s1, _⟩ := half p 2 hp.1 (by omega)
    obtain ⟨s2, s3⟩ := half q 2 hq.1 (by omega)
    have f1 : 0 ≤ p % 2 ∧ p % 2 < 2 := by omega
    have f2 : 0 ≤ q % 2 ∧ q % 2 < 2 := by omega
    have f3 : 0 ≤ p / 4 ∧ p / 4 < 64 := by omega
    have f4 : 0 ≤ q / 4 ∧ q / 4 < 64 := by omega
    have f5 : 0 ≤ p / 2 % 2 ∧ p / 2 % 2 ≤ 1 := by omega
    have f6 : 0 ≤ q / 2 % 2 ∧ q / 2 % 2 ≤ 1 := by omega
    simp only [show (2 * 2 : Int) = 4 from rfl] at s1 s2 s3
    rw [g1, g2, g3, s1, s2, s3]
    generalize p / 2 % 2 = x1 at *
    generalize q / 2 % 2 = x2 at *
    generalize p % 2 = x3 at *
    generalize q % 2 = x4 at *
    generalize p / 4 = x5 at *
    generalize q / 4 = x6 at *
    clear s1 s2 s3 g1 g2 g3
    omega
  · have g1 : mix 7 p q = p % 2 * 128 + q / 2 := by simp [mix] <;> omega
    have g2 : mix 7 q p = q % 2 * 128 + p / 2 := by simp [mix] <;> omega
    have g3 : mix (7 + 1) p q = p % 1 * 256 + q / 1 := by simp [mix]
    obtain ⟨s1, _⟩ := half p 1 hp.1 (by omega)
    obtain ⟨s2, s3⟩ := half q 1 hq.1 (by omega)
    have f1 : 0 ≤ p % 1 ∧ p % 1 < 1 := by omega
    have f2 : 0 ≤ q % 1 ∧ q % 1 < 1 := by omega
    have f3 : 0 ≤ p / 2 ∧ p / 2 < 128 := by omega
    have f4 : 0 ≤ q / 2 ∧ q / 2 < 128 := by omega
    have f5 : 0 ≤ p / 1 % 2 ∧ p / 1 % 2 ≤ 1 := by omega
    have f6 : 0 ≤ q / 1 % 2 ∧ q / 1 % 2 ≤ 1 := by omega
    simp only [show (2 * 1 : Int) = 2 from rfl] at s1 s2 s3
    rw [g1, g2, g3, s1, s2, s3]
    generalize p / 1 % 2 = x1 at *
    generalize q / 1 % 2 = x2 at *
    generalize p % 1 = x3 at *
    generalize q % 1 = x4 at *
    generalize p / 2 = x5 at *
    generalize q / 2 = x6 at *
    clear s1 s2 s3 g1 g2 g3
    omega
/-- The one that leads, and the one that waits, behind k beats. -/
def cx (k : Nat) (p q A : Int) : Sr := if k < 8 then ⟨mix k p q, true, true, 8 - k, A + 48 * k, false⟩ else ⟨q, false, false, 0, 0, false⟩
def cy (k : Nat) (p q : Int) : Sr := if k < 8 then ⟨mix k q p, true, false, 8 - k, 0, false⟩ else ⟨p, false, false, 0, 0, false⟩
theorem bok_in {x : Int} (h : 0 ≤ x ∧ x ≤ 255) : bok x = true := bok_mk h.1 h.2
theorem cx_ok (k : Nat) (hk : k ≤ 8) (p q A : Int) (hp : 0 ≤ p ∧ p ≤ 255) (hq : 0 ≤ q ∧ q ≤ 255) (hA : 32 ≤ A ∧ A ≤ 1000) : (cx k p q A).ok = true := by
  unfold cx
  split
  · have hb := bok_in (mix_in k hk p q hp hq)
    have hk1 : clk (A + 48 * (k : Int)) = true := by simp [clk, inn]; omega
    have hn : inn (8 - (k : Int)) 1 8 = true := by simp [inn]; omega
    simp [Sr.ok, hb, hk1, hn]
  · have hb := bok_in hq
    have h0 : clk 0 = true := by decide
    simp [Sr.ok, hb, h0]
theorem cy_ok (k : Nat) (hk : k ≤ 8) (p q : Int) (hp : 0 ≤ p ∧ p ≤ 255) (hq : 0 ≤ q ∧ q ≤ 255) : (cy k p q).ok = true := by
  have h0 : clk 0 = true := by decide
  unfold cy
  split
  · have hb := bok_in (mix_in k hk q p hq hp)
    have hn : inn (8 - (k : Int)) 1 8 = true := by simp [inn]; omega
    simp [Sr.ok, hb, h0, hn]
  · have hb := bok_in hp
    simp [Sr.ok, hb, h0]
theorem bit_in {x : Int} (h : 0 ≤ x ∧ x ≤ 255) : inn (x / 128) 0 1 = true := by simp [inn]; omega
theorem cable_send (k : Nat) (hk : k < 8) (p q A : Int) (hp : 0 ≤ p ∧ p ≤ 255) (hq : 0 ≤ q ∧ q ≤ 255) (hA : 32 ≤ A ∧ A ≤ 1000) :
    (cx k p q A).send (A + 48 * k) = (⟨mix k p q, true, true, 8 - k, 0, true⟩, A + 48 * k, mix k p q / 128) := by
  have hok := cx_ok k (by omega) p q A hp hq hA
  have e : cx k p q A = ⟨mix k p q, true, true, 8 - k, A + 48 * k, false⟩ := by simp [cx, hk]
  unfold Sr.send
  rw [if_pos hok, e]
  rw [if_pos (by simp; omega)]
theorem cable_beat (k : Nat) (hk : k < 8) (p q : Int) (hp : 0 ≤ p ∧ p ≤ 255) (hq : 0 ≤ q ∧ q ≤ 255) :
    (cy k p q).beat (mix k p q / 128) = (cy (k + 1) p q, mix k q p / 128, decide (k = 7)) := by
  have hok := cy_ok k (by omega) p q hp hq
  have hb := bit_in (mix_in k (by omega) p q hp hq)
  have e : cy k p q = ⟨mix k q p, true, false, 8 - k, 0, false⟩ := by simp [cy, hk]
  unfold Sr.beat
  rw [hok, hb, e]
  simp only [Bool.and_self, if_true, Bool.not_false, mix_step k hk q p hq hp]
  by_cases h7 : k = 7
  · subst h7
    simp [cy, mix_eight]
  · have h1 : ¬ (8 - (k : Int) = 1) := by omega
    have h2 : k + 1 < 8 := by omega
    simp [cy, h1, h2, h7]
    omega
theorem cable_answer (k : Nat) (hk : k < 8) (p q A : Int) (hp : 0 ≤ p ∧ p ≤ 255) (hq : 0 ≤ q ∧ q ≤ 255) (hA : 32 ≤ A ∧ A ≤ 1000) :
    (Sr.mk (mix k p q) true true (8 - k) 0 true).ok = true ∧ (Sr.mk (mix k p q) true true (8 - k) 0 true).answer (mix k q p / 128) (A + 48 * k + 16) = (cx (k + 1) p q A, decide (k = 7)) := by
  have hm := bok_in (mix_in k (by omega) p q hp hq)
  have h0 : clk 0 = true := by decide
  have hn : inn (8 - (k : Int)) 1 8 = true := by simp [inn]; omega
  have hok : (Sr.mk (mix k p q) true true (8 - k) 0 true).ok = true := by simp [Sr.ok, hm, h0, hn]
  have hb := bit_in (mix_in k (by omega) q p hq hp)
  have ha : inn (A + 48 * (k : Int) + 16) 0 999999968 = true := by simp [inn]; omega
  refine ⟨hok, ?_⟩
  unfold Sr.answer
  rw [hok, hb, ha]
  simp only [Bool.and_self, if_true, mix_step k hk p q hp hq]
  by_cases h7 : k = 7
  · subst h7
    simp [cx, mix_eight]
  · have h1 : ¬ (8 - (k : Int) = 1) := by omega
    have h2 : k + 1 < 8 := by omega
    simp [cx, h1, h2, h7]
    omega
theorem cable_start (p now : Int) (hp : 0 ≤ p ∧ p ≤ 255) (hn : 0 ≤ now ∧ now < 100) (q : Int) (hq : 0 ≤ q ∧ q ≤ 255) :
    (Sr.mk p false false 0 0 false).start true now = cx 0 p q (now + 32) ∧ (Sr.mk q false false 0 0 false).start false 0 = cy 0 p q := by
  have h0 : clk 0 = true := by decide
  have h1 := bok_in hp
  have h2 := bok_in hq
  have h3 : inn now 0 999999968 = true := by simp [inn]; omega
  have h4 : inn 0 0 1000000000 = true := by decide
  constructor
  · simp [Sr.start, Sr.starts, Sr.ok, h0, h1, h3, cx, mix_zero p q hp hq]
  · simp [Sr.start, Sr.starts, Sr.ok, h0, h2, h4, cy, mix_zero q p hq hp]
end Go.Proofs.Ytdcmjajipkpbnaa.Srl
