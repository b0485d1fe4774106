/-
  The laws' own helpers over notes and pipes: marks that are set and found again.
-/
import Derived.Test.YtggfjghcgacdnaaNtLaw
import Derived.Test.YtggfjghcgacdnaaMsgMk
namespace Go.Proofs.Ytggfjghcgacdnaa.Mem
open Go.ChangeShapes Go.WideShapes Go.RowKit Base Num Slc Slf Rw Tmr Reg Ex
set_option linter.unusedVariables false
set_option linter.unusedSimpArgs false
set_option maxRecDepth 20000

def bt3 (q : Nat) : Bool := ((q : Int).tmod 3 == 0)
def ntMark (k : Nat) : Nt := ⟨bt3 k, ((k + 1 : Nat) : Int), ⟨((k + 2 : Nat) : Int), ((k + 3 : Nat) : Int), ((k + 4 : Nat) : Int)⟩⟩
/-- Marks: five a note, one after another, from k on. -/
def marksN (k : Nat) : Nat → List Nt
  | 0 => []
  | n + 1 => ntMark k :: marksN (k + 5) n
theorem marksN_length (k n : Nat) : (marksN k n).length = n := by
  induction n generalizing k with
  | zero => rfl
  | succ n ih => simp [marksN, ih]
theorem marksN_snoc (k n : Nat) : marksN k (n + 1) = marksN k n ++ [ntMark (k + 5 * n)] := by
  induction n generalizing k with
  | zero => simp [marksN]
  | succ n ih =>
    have := ih (k + 5)
    rw [marksN, this, marksN, show k + 5 + 5 * n = k + 5 * (n + 1) by omega]
    rfl
theorem marksN_at (k n j : Nat) (h : j < n) : (marksN k n)[j]? = some (ntMark (k + 5 * j)) := by
  induction n generalizing k j with
  | zero => omega
  | succ n ih =>
    cases j with
    | zero => simp [marksN]
    | succ j =>
      have := ih (k + 5) j (by omega)
      simp only [marksN, List.getElem?_cons_succ, this]
      rw [show k + 5 + 5 * j = k + 5 * (j + 1) by omega]
theorem markN_step (k : Nat) (l : List Nt) (j : Nat) (h : j < l.length) : (marksN k j ++ l.drop j).set j (ntMark (k + 5 * j)) = marksN k (j + 1) ++ l.drop (j + 1) := by
  rw [marksN_snoc, List.set_append_right _ _ (by rw [marksN_length]; omega), marksN_length, Nat.sub_self, List.drop_eq_getElem_cons h, List.set_cons_zero]
  simp
theorem at_setN {l : List Nt} {i : Nat} {e : Nt} (h : i < l.length) : (l.set i e)[i]? = some e := by simp [h]
theorem markNoteS_any (B : TypeId) (v : Value) (l : List Nt) (w : World) (base k : Nat) (h : OwnA B fN base w v l) (hb : l.length ≤ 4000000) (hk : k ≤ 1000000000) :
    Calls Try.prog 44 #[v, .int .i64 (k : Int)] w fun e w' => e = .returned (.int .i64 ((k + 5 * l.length : Nat) : Int)) ∧ OwnA B fN base w' v (marksN k l.length) ∧ w.grownBy w' v.ownBlock := by
  have HO : Hid (OwnA B fN base w v l) := h
  rcases h with ⟨rfl, h0⟩ | ⟨g, cap, cur, rfl, hbg, hg, hn, hm, hcs, ht⟩
  · have hl : l = [] := List.eq_nil_of_length_eq_zero h0
    subst hl
    go_enter Try.func44, Try.ntmps44
    go_wp2
    refine wp_loop_rounds 1 ?_
    rw [rounds_succ]
    go_wp2
    go_ret
    exact ⟨rfl, .inl ⟨rfl, rfl⟩, World.grownBy.refl _ _⟩
  · unfold maxLen at hm
    clear hg hcs ht cur
    go_enter Try.func44, Try.ntmps44
    go_wp2_with fail
    go_loopw [1, 5] (fun q i wr => ∃ j : Nat, j ≤ l.length ∧ i = .int .i64 j ∧ q = .int .i64 ((k + 5 * j : Nat) : Int) ∧ OwnA B fN base wr (.slice (some ⟨g, 0, none⟩) l.length cap) (marksN k j ++ l.drop j) ∧ w.grownBy wr (some g)) (fun _ i _ => l.length - (intOf i).toNat)
    case atStart => exact ⟨0, Nat.zero_le _, rfl, rfl, by simpa [marksN] using HO.out, World.grownBy.refl _ _⟩
    case round =>
      obtain ⟨j, hj, rfl, rfl, ho, hgw⟩ := hrel
      obtain ⟨L, HL⟩ : ∃ L, Hid (L = marksN k j ++ l.drop j) := ⟨_, show _ = _ from rfl⟩
      rw [← HL.out] at ho
      by_cases hlt : j < l.length
      · have hll : j < L.length := by rw [HL.out]; simp [marksN_length]; omega
        have hat := atN hll
        generalize Nt.at' L j = e0 at hat
        obtain ⟨z, hz⟩ : ∃ z, z = k + 5 * j := ⟨_, rfl⟩
        rw [← hz]
        have HZ : Hid (z = k + 5 * j) := hz
        have hzb : z ≤ 1020000000 := by omega
        clear hz
        go_wp2_with (first
          | (refine ixF okN (r := j) rfl rfl rfl rfl hlt ?_)
          | (refine stA okN (u := .bool (bt3 z)) (e' := ⟨bt3 z, e0.t, e0.m⟩) (j := 0) rfl rfl rfl rfl szb_nt ho hat rfl (by decide) rfl rfl ?_; intro w1 ho1 hg1)
          | (refine stA okN (u := .int .i64 ((z : Int) + 1)) (e' := ⟨bt3 z, (z : Int) + 1, e0.m⟩) (j := 1) rfl rfl rfl rfl szi_nt ho1 (at_setN hll) rfl (by decide) rfl rfl ?_; intro w2 ho2 hg2; rw [List.set_set] at ho2)
          | (refine stA okN (u := .int .i64 ((z : Int) + 1 + 1)) (e' := ⟨bt3 z, (z : Int) + 1, ⟨(z : Int) + 1 + 1, e0.m.k, e0.m.v⟩⟩) (j := 2) rfl rfl rfl rfl szi_nt ho2 (at_setN hll) rfl (by decide) rfl rfl ?_; intro w3 ho3 hg3; rw [List.set_set] at ho3)
          | (refine stA okN (u := .int .i64 ((z : Int) + 1 + 1 + 1)) (e' := ⟨bt3 z, (z : Int) + 1, ⟨(z : Int) + 1 + 1, (z : Int) + 1 + 1 + 1, e0.m.v⟩⟩) (j := 3) rfl rfl rfl rfl szi_nt ho3 (at_setN hll) rfl (by decide) rfl rfl ?_; intro w4 ho4 hg4; rw [List.set_set] at ho4)
          | (refine stA okN (u := .int .i64 ((z : Int) + 1 + 1 + 1 + 1)) (e' := ⟨bt3 z, (z : Int) + 1, ⟨(z : Int) + 1 + 1, (z : Int) + 1 + 1 + 1, (z : Int) + 1 + 1 + 1 + 1⟩⟩) (j := 4) rfl rfl rfl rfl szi_nt ho4 (at_setN hll) rfl (by decide) rfl rfl ?_; intro w5 ho5 hg5; rw [List.set_set] at ho5))
        go_roundw
        case rel =>
          refine ⟨j + 1, by omega, by go_num, ?_, ?_, grown_trans (grown_trans (grown_trans (grown_trans (grown_trans hgw hg1) hg2) hg3) hg4) hg5⟩
          · rw [HZ.out]; go_num
          · rw [← markN_step k l j hlt, ← HL.out, ← HZ.out]
            have e3 : (⟨bt3 z, (z : Int) + 1, ⟨(z : Int) + 1 + 1, (z : Int) + 1 + 1 + 1, (z : Int) + 1 + 1 + 1 + 1⟩⟩ : Nt) = ntMark z := by simp [ntMark]; omega
            rw [e3] at ho5
            exact ho5
        case measure => simp [intOf]; omega
      · have e : j = l.length := by omega
        subst e
        go_wp2
        go_ret
        exact ⟨rfl, by simpa [HL.out] using ho, hgw⟩
theorem heldNoteS_any (v : Value) (n : Nat) (w : World) (k : Nat) (h : SlF fN w v (marksN k n)) (hb : n ≤ 4000000) (hk : k ≤ 1000000000) :
    Calls Try.prog 45 #[v, .int .i64 (k : Int)] w fun e w' => e = .returned (.int .i64 ((k + 5 * n : Nat) : Int)) ∧ w' = w := by
  have HS : Hid (SlF fN w v (marksN k n)) := h
  obtain ⟨a, cap, rfl, -, hlc, hcm, -⟩ := h
  unfold maxLen at hcm
  rw [marksN_length] at *
  go_enter Try.func45, Try.ntmps45
  go_wp2_with fail
  go_loop [1, 5] (fun q i => ∃ j : Nat, j ≤ n ∧ i = .int .i64 j ∧ q = .int .i64 ((k + 5 * j : Nat) : Int)) (fun _ i => n - (intOf i).toNat)
  case atStart => exact ⟨0, Nat.zero_le _, rfl, rfl⟩
  case round =>
    obtain ⟨j, hj, rfl, rfl⟩ := hrel
    by_cases hlt : j < n
    · obtain ⟨b, off, c, e, -, -, -⟩ := HS.out.shape (by rw [marksN_length]; omega)
      simp only [Value.slice.injEq] at e
      obtain ⟨rfl, -, rfl⟩ := e
      have hc := HS.out
      have hat := marksN_at k n j hlt
      have c0 := hc.cell okN hat (j := 0) (by decide)
      have c1 := hc.cell okN hat (j := 1) (by decide)
      have c2 := hc.cell okN hat (j := 2) (by decide)
      have c3 := hc.cell okN hat (j := 3) (by decide)
      have c4 := hc.cell okN hat (j := 4) (by decide)
      clear hc hat
      obtain ⟨z, hz⟩ : ∃ z, z = k + 5 * j := ⟨_, rfl⟩
      rw [← hz] at c0 c1 c2 c3 c4 ⊢
      have HZ : Hid (z = k + 5 * j) := hz
      have hzb : z ≤ 1020000000 := by omega
      clear hz
      have d0 : w.cell? ⟨b, off + j * fN.n, none⟩ = some (.bool (bt3 z)) := c0
      have d1 : w.cell? ⟨b, off + j * fN.n + 1, none⟩ = some (.int .i64 ((z + 1 : Nat) : Int)) := c1
      have d2 : w.cell? ⟨b, off + j * fN.n + 2, none⟩ = some (.int .i64 ((z + 2 : Nat) : Int)) := c2
      have d3 : w.cell? ⟨b, off + j * fN.n + 3, none⟩ = some (.int .i64 ((z + 3 : Nat) : Int)) := c3
      have d4 : w.cell? ⟨b, off + j * fN.n + 4, none⟩ = some (.int .i64 ((z + 4 : Nat) : Int)) := c4
      have hb0 : ((z : Int).tmod 3 == 0) = ((z : Int) % 3 == 0) := by rw [Int.tmod_eq_emod_of_nonneg (by omega)]
      have hb1 : (!bt3 z == ((z : Int) % 3 == 0)) = false := by unfold bt3; rw [hb0]; cases ((z : Int) % 3 == 0) <;> rfl
      have n2 : ((z : Int) + 2 != (z : Int) + 1 + 1) = false := by simp; omega
      have n3 : ((z : Int) + 3 != (z : Int) + 1 + 1 + 1) = false := by simp; omega
      have n4 : ((z : Int) + 4 != (z : Int) + 1 + 1 + 1 + 1) = false := by simp; omega
      clear hb0
      clear c0 c1 c2 c3 c4
      go_wp2_with (refine ixF okN (r := j) rfl rfl rfl rfl hlt ?_)
      go_round
      case rel => exact ⟨j + 1, by omega, by go_num, by rw [HZ.out]; go_num⟩
      case measure => simp [intOf]; omega
    · have e : j = n := by omega
      subst e
      go_wp2
      go_ret
      exact ⟨rfl, rfl⟩
end Go.Proofs.Ytggfjghcgacdnaa.Mem
