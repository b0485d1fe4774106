/-
  Who is called away comes back by rti where he was; who is called away wanted it.
-/
import Derived.Test.YtocofjimkfffeaaGreatDoorIq
import Derived.Test.YtocofjimkfffeaaGreatDoorMcMem
namespace Go.Proofs.YtocofjimkfffeaaGreatDoor.Mem
open Go.ChangeShapes Go.WideShapes Go.RowKit Base Num Slc Rw Tmr Srl Rom Opl
set_option linter.unusedVariables false
set_option linter.unusedSimpArgs false

/-- A new machine, enabled, whose flags and mask are k, at the place q. -/
def probe (rom : List Int) (k q : Int) : Mc := { Mc.fresh rom with e := true, ms := k, fl := k, pc := q }
theorem probe_ok {rom : List Int} (h : romOk rom = true) {k q : Int} (hk : 1 ≤ k ∧ k ≤ 7) (hq : 0 ≤ q ∧ q < 16) : (probe rom k q).ok = true :=
  okm.2 { okm.1 (fresh_ok h) with
    ms := show inn k 0 7 = true by simp [inn]; omega
    fl := show inn k 0 7 = true by simp [inn]; omega
    pc := bok_iff.2 (by show 0 ≤ q ∧ q ≤ 255; omega) }
theorem pend_self {k : Int} (hk : 1 ≤ k ∧ k ≤ 7) : (pend k k = 0 ∨ pend k k = 1 ∨ pend k k = 2) ∧ k - bitOf (pend k k) < k := by
  obtain rfl | rfl | rfl | rfl | rfl | rfl | rfl : k = 1 ∨ k = 2 ∨ k = 3 ∨ k = 4 ∨ k = 5 ∨ k = 6 ∨ k = 7 := by omega
  all_goals exact ⟨by decide, by decide⟩
theorem line29 : line 29 = ((line 29).1, 1, 4) := by decide +kernel
theorem away_back {rom : List Int} (h : romOk rom = true) (hl : 61 ≤ rom.length) (h29 : ∀ j : Nat, 16 ≤ j → j < 60 → rom.getD j 0 = 29) {k q : Int} (hk : 1 ≤ k ∧ k ≤ 7) (hq : 0 ≤ q ∧ q < 16) :
    ∃ i B D O, (probe rom k q).called = (B, i) ∧ (0 ≤ i ∧ i ≤ 2) ∧ (probe rom k q).pendIn = i ∧ B.execd = (D, 4, O) ∧ D.pc = q ∧ D.e = true ∧ D.sp = 192 ∧ D.fl < k := by
  have hok := probe_ok h hk hq
  obtain ⟨hp, hb⟩ := pend_self hk
  generalize hi : pend k k = i at hp hb
  have hpe : (probe rom k q).pend = i := hi
  have hcal : (probe rom k q).called = ((probe rom k q).away i, i) := by
    unfold Mc.called Mc.call
    rw [hok, if_pos rfl, hpe, if_neg (by show ¬ (i < 0 ∨ false = true); simp; omega), if_neg (by show ¬ true = false; simp)]
  have hw : ((probe rom k q).taken i).psh q = { (probe rom k q).taken i with sp := 191, ram := (List.replicate 64 (0 : Int)).set 63 q } := rfl
  have hB : (probe rom k q).away i = { (probe rom k q).taken i with sp := 191, ram := (List.replicate 64 (0 : Int)).set 63 q, pc := 16 + 8 * i } := by
    unfold Mc.away
    show { ((probe rom k q).taken i).psh q with pc := 16 + 8 * i } = _
    rw [hw]
  have hBok : ((probe rom k q).away i).ok = true := (away_like hok hpe (by omega)).1
  rw [hB] at hBok
  generalize hBB : ({ (probe rom k q).taken i with sp := 191, ram := (List.replicate 64 (0 : Int)).set 63 q, pc := 16 + 8 * i } : Mc) = B at hBok
  have hrom : B.rom = rom := by rw [← hBB]; rfl
  have hcode : B.code = 29 := by
    have e1 : B.code = B.read (16 + 8 * i) := by rw [← hBB]; rfl
    rw [e1]
    unfold Mc.read
    rw [if_pos (by omega), hrom, if_pos (by omega)]
    exact h29 _ (by omega) (by omega)
  have hsz : B.size' = 1 := by unfold Mc.size'; rw [hcode]; decide +kernel
  have hids : (B.h || B.s) = false := by rw [← hBB]; rfl
  have htop : B.onw.top = q := by
    unfold Mc.top Mc.onw
    rw [← hBB]
    show ({ (probe rom k q).taken i with sp := 191, ram := (List.replicate 64 (0 : Int)).set 63 q, pc := _ } : Mc).read 191 = q
    unfold Mc.read
    simp
  refine ⟨i, B, (B.onw.does B.opnd 29).1, (B.onw.does B.opnd 29).2, ?_, by omega, ?_, ?_, htop, rfl, ?_, ?_⟩
  · rw [hcal, hB, hBB]
  · unfold Mc.pendIn; rw [hok, if_pos rfl, hpe]
  · unfold Mc.execd Mc.exec
    rw [hBok, if_pos rfl, hids, if_neg (by decide), if_neg (by omega), hcode]
    rfl
  · show (B.sp + 1) % 256 = 192
    rw [← hBB]; rfl
  · show B.fl < k
    rw [← hBB]; exact hb
/-- Who is called away wanted it. -/
theorem called_told {m N : Mc} {I : Int} (h : m.called = (N, I)) : I = -1 ∨ ((0 ≤ I ∧ I ≤ 2) ∧ m.e = true ∧ N.e = false ∧ N.pc = 16 + 8 * I ∧ N.h = false) := by
  unfold Mc.called at h
  cases hok : m.ok
  · rw [hok] at h
    simp only [Bool.false_eq_true, if_false, Prod.mk.injEq] at h
    exact .inl h.2.symm
  rw [hok, if_pos rfl] at h
  unfold Mc.call at h
  have hp : m.pend = -1 ∨ m.pend = 0 ∨ m.pend = 1 ∨ m.pend = 2 := pend_in m.fl m.ms
  by_cases hc : m.pend < 0 ∨ m.s = true
  · rw [if_pos hc] at h
    simp only [Prod.mk.injEq] at h
    exact .inl h.2.symm
  rw [if_neg hc] at h
  cases he : m.e
  · rw [he, if_pos rfl] at h
    simp only [Prod.mk.injEq] at h
    exact .inl h.2.symm
  rw [he, if_neg (by decide)] at h
  simp only [Prod.mk.injEq] at h
  obtain ⟨rfl, rfl⟩ := h
  have h0 : ¬ m.pend < 0 := fun e => hc (.inl e)
  have hw : ∀ (x : Mc) (a n : Int), (x.write a n).e = x.e ∧ (x.write a n).h = x.h := fun x a n => by
    unfold Mc.write
    repeat' split
    all_goals exact ⟨rfl, rfl⟩
  exact .inr ⟨by omega, rfl, (hw _ _ _).1, rfl, (hw _ _ _).2⟩
end Go.Proofs.YtocofjimkfffeaaGreatDoor.Mem
