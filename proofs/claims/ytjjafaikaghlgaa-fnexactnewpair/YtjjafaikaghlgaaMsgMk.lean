/-
  The laws' own helpers over lists of messages: marks that are set and found again.
-/
import Derived.Test.YtjjafaikaghlgaaMsgLaw
namespace Go.Proofs.Ytjjafaikaghlgaa.Mem
open Go.ChangeShapes Go.WideShapes Go.RowKit Base Num Slc Slf Rw Tmr Reg Ex
set_option linter.unusedVariables false
set_option linter.unusedSimpArgs false
set_option maxRecDepth 20000

/-- Marks: three a message, one after another, from k on. -/
def marks3 (k : Nat) : Nat → List M3
  | 0 => []
  | n + 1 => ⟨(k : Int), ((k + 1 : Nat) : Int), ((k + 2 : Nat) : Int)⟩ :: marks3 (k + 3) n
theorem marks3_length (k n : Nat) : (marks3 k n).length = n := by
  induction n generalizing k with
  | zero => rfl
  | succ n ih => simp [marks3, ih]
theorem marks3_snoc (k n : Nat) : marks3 k (n + 1) = marks3 k n ++ [⟨((k + 3 * n : Nat) : Int), ((k + 3 * n + 1 : Nat) : Int), ((k + 3 * n + 2 : Nat) : Int)⟩] := by
  induction n generalizing k with
  | zero => simp [marks3]
  | succ n ih =>
    have := ih (k + 3)
    rw [marks3, this, marks3]
    simp
    omega
theorem marks3_at (k n j : Nat) (h : j < n) : M3.at' (marks3 k n) j = ⟨((k + 3 * j : Nat) : Int), ((k + 3 * j + 1 : Nat) : Int), ((k + 3 * j + 2 : Nat) : Int)⟩ := by
  unfold M3.at'
  induction n generalizing k j with
  | zero => omega
  | succ n ih =>
    cases j with
    | zero => simp [marks3]
    | succ j =>
      have := ih (k + 3) j (by omega)
      simp only [marks3, List.getD_cons_succ, this]
      simp
      omega
theorem mark3_step (k : Nat) (l : List M3) (j : Nat) (h : j < l.length) : (marks3 k j ++ l.drop j).set j ⟨((k + 3 * j : Nat) : Int), ((k + 3 * j + 1 : Nat) : Int), ((k + 3 * j + 2 : Nat) : Int)⟩ = marks3 k (j + 1) ++ l.drop (j + 1) := by
  rw [marks3_snoc, List.set_append_right _ _ (by rw [marks3_length]; omega), marks3_length, Nat.sub_self, List.drop_eq_getElem_cons h, List.set_cons_zero]
  simp
theorem at_set {l : List M3} {i : Nat} {e : M3} (h : i < l.length) : (l.set i e)[i]? = some e := by simp [h]
theorem markMsgS_any (v : Value) (l : List M3) (w : World) (base k : Nat) (h : OwnF fM base w v l) (hb : l.length ≤ 4000000) (hk : k ≤ 1000000000) :
    Calls Try.prog 18 #[v, .int .i64 (k : Int)] w fun e w' => e = .returned (.int .i64 ((k + 3 * l.length : Nat) : Int)) ∧ OwnF fM base w' v (marks3 k l.length) ∧ w.grownBy w' v.ownBlock := by
  have HO : Hid (OwnF fM base w v l) := h
  rcases h.2 with ⟨rfl, h0⟩ | ⟨g, cap, cur, rfl, hbg, hg, hn, hm, hcs, ht⟩
  · have hl : l = [] := List.eq_nil_of_length_eq_zero h0
    subst hl
    go_enter Try.func18, Try.ntmps18
    go_wp2
    refine wp_loop_rounds 1 ?_
    rw [rounds_succ]
    go_wp2
    go_ret
    exact ⟨rfl, OwnF.nil _ _ _, World.grownBy.refl _ _⟩
  · unfold maxLen at hm
    clear h hg hcs ht cur
    go_enter Try.func18, Try.ntmps18
    go_wp2_with fail
    go_loopw [1, 5] (fun q i wr => ∃ j : Nat, j ≤ l.length ∧ i = .int .i64 j ∧ q = .int .i64 ((k + 3 * j : Nat) : Int) ∧ OwnF fM base wr (.slice (some ⟨g, 0, none⟩) l.length cap) (marks3 k j ++ l.drop j) ∧ w.grownBy wr (some g)) (fun _ i _ => l.length - (intOf i).toNat)
    case atStart => exact ⟨0, Nat.zero_le _, rfl, rfl, by simpa [marks3] using HO.out, World.grownBy.refl _ _⟩
    case round =>
      obtain ⟨j, hj, rfl, rfl, ho, hgw⟩ := hrel
      obtain ⟨L, HL⟩ : ∃ L, Hid (L = marks3 k j ++ l.drop j) := ⟨_, show _ = _ from rfl⟩
      rw [← HL.out] at ho
      by_cases hlt : j < l.length
      · have hll : j < L.length := by rw [HL.out]; simp [marks3_length]; omega
        have hat := at_some hll
        generalize M3.at' L j = e0 at hat
        obtain ⟨z, hz⟩ : ∃ z, z = k + 3 * j := ⟨_, rfl⟩
        rw [← hz]
        have HZ : Hid (z = k + 3 * j) := hz
        have hzb : z ≤ 1012000000 := by omega
        clear hz
        go_wp2_with (first
          | (refine ixF okM (r := j) rfl rfl rfl rfl hlt ?_)
          | (refine stE okM rfl (e' := ⟨z, e0.k, e0.v⟩) (j := 0) rfl rfl rfl rfl ho hat rfl (by omega) rfl ?_; intro w1 ho1 hg1)
          | (refine stE okM rfl (e' := ⟨z, (z : Int) + 1, e0.v⟩) (j := 1) rfl rfl rfl rfl ho1 (at_set hll) rfl (by omega) rfl ?_; intro w2 ho2 hg2)
          | (refine stE okM rfl (e' := ⟨z, (z : Int) + 1, (z : Int) + 1 + 1⟩) (j := 2) rfl rfl rfl rfl ho2 (at_set (by simpa using hll)) rfl (by omega) rfl ?_; intro w3 ho3 hg3))
        go_roundw
        case rel =>
          refine ⟨j + 1, by omega, by go_num, ?_, ?_, grown_trans (grown_trans (grown_trans hgw hg1) hg2) hg3⟩
          · rw [HZ.out]; go_num
          · rw [← mark3_step k l j hlt, ← HL.out, ← HZ.out]
            have e3 : (⟨z, (z : Int) + 1, (z : Int) + 1 + 1⟩ : M3) = ⟨((z : Nat) : Int), ((z + 1 : Nat) : Int), ((z + 2 : Nat) : Int)⟩ := by simp; omega
            rw [List.set_set, List.set_set, e3] at ho3
            exact ho3
        case measure => simp [intOf]; omega
      · have e : j = l.length := by omega
        subst e
        go_wp2
        go_ret
        exact ⟨rfl, by simpa [HL.out] using ho, hgw⟩
theorem heldMsgS_any (v : Value) (n : Nat) (w : World) (k : Nat) (h : SlF fM w v (marks3 k n)) (hb : n ≤ 4000000) (hk : k ≤ 1000000000) :
    Calls Try.prog 79 #[v, .int .i64 (k : Int)] w fun e w' => e = .returned (.int .i64 ((k + 3 * n : Nat) : Int)) ∧ w' = w := by
  have HS : Hid (SlF fM w v (marks3 k n)) := h
  obtain ⟨a, cap, rfl, -, hlc, hcm, -⟩ := h
  unfold maxLen at hcm
  rw [marks3_length] at *
  go_enter Try.func79, Try.ntmps79
  go_wp2_with fail
  go_loop [1, 5] (fun q i => ∃ j : Nat, j ≤ n ∧ i = .int .i64 j ∧ q = .int .i64 ((k + 3 * j : Nat) : Int)) (fun _ i => n - (intOf i).toNat)
  case atStart => exact ⟨0, Nat.zero_le _, rfl, rfl⟩
  case round =>
    obtain ⟨j, hj, rfl, rfl⟩ := hrel
    by_cases hlt : j < n
    · have hll : j < (marks3 k n).length := by rw [marks3_length]; exact hlt
      obtain ⟨b, off, c, e, -, -, -⟩ := HS.out.shape (by rw [marks3_length]; omega)
      simp only [Value.slice.injEq] at e
      obtain ⟨rfl, -, rfl⟩ := e
      have hc := HS.out
      have c0 := hc.cell okM (at_some hll) (j := 0) (by decide)
      have c1 := hc.cell okM (at_some hll) (j := 1) (by decide)
      have c2 := hc.cell okM (at_some hll) (j := 2) (by decide)
      rw [marks3_at k n j hlt] at c0 c1 c2
      clear hc
      obtain ⟨z, hz⟩ : ∃ z, z = k + 3 * j := ⟨_, rfl⟩
      rw [← hz] at c0 c1 c2 ⊢
      have HZ : Hid (z = k + 3 * j) := hz
      have hzb : z ≤ 1012000000 := by omega
      clear hz
      have d0 : w.cell? ⟨b, off + j * fM.n, none⟩ = some (.int .i64 (z : Int)) := c0
      have d1 : w.cell? ⟨b, off + j * fM.n + 1, none⟩ = some (.int .i64 ((z + 1 : Nat) : Int)) := c1
      have d2 : w.cell? ⟨b, off + j * fM.n + 2, none⟩ = some (.int .i64 ((z + 2 : Nat) : Int)) := c2
      clear c0 c1 c2 hll
      go_wp2_with (refine ixF okM (r := j) rfl rfl rfl rfl hlt ?_)
      go_round
      case rel => exact ⟨j + 1, by omega, by go_num, by rw [HZ.out]; go_num⟩
      case measure => simp [intOf]; omega
    · have e : j = n := by omega
      subst e
      go_wp2
      go_ret
      exact ⟨rfl, rfl⟩
end Go.Proofs.Ytjjafaikaghlgaa.Mem
