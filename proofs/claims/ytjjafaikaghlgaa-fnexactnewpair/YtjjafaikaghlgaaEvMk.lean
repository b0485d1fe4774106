/-
  The laws' own helpers over lists of events: held against each other, marks set and found again.
-/
import Derived.Test.YtjjafaikaghlgaaMsgMk
namespace Go.Proofs.Ytjjafaikaghlgaa.Mem
open Go.ChangeShapes Go.WideShapes Go.RowKit Base Num Slc Slf Rw Tmr Reg Ex
set_option linter.unusedVariables false
set_option linter.unusedSimpArgs false
set_option maxRecDepth 20000

theorem eqEv_same (m : M3) (w : World) : Calls Try.prog 106 #[m.val, m.val] w fun e w' => e = .returned (.bool true) ∧ Below w.heap.size w w' := by
  obtain ⟨t, k, v⟩ := m
  have hB : Hid (Below w.heap.size w ((w.alloc (.cells #[.int .i64 t, .int .i64 k, .int .i64 v] 121)).alloc (.cells #[.int .i64 t, .int .i64 k, .int .i64 v] 121))) := ((Below.refl _ w).alloc (Nat.le_refl _) _).alloc (by simp) _
  rw [m3_val]
  go_enter Try.func106, Try.ntmps106
  go_wp2
  go_ret
  exact ⟨rfl, hB.out⟩
/-- Two lists that read alike, by a call that writes nothing old. -/
theorem eqEvS_same (v u : Value) (l : List M3) (w : World) (h1 : SlF fE w v l) (h2 : SlF fE w u l) :
    Calls Try.prog 69 #[v, u] w fun e w' => e = .returned (.bool true) ∧ Below w.heap.size w w' := by
  have hG : Gii fE w v u l w := ⟨h1, h2, Below.refl _ _⟩
  obtain ⟨a, c, rfl, -, hlc, hcm, -⟩ := h1
  obtain ⟨a2, c2, rfl, -, hlc2, hcm2, -⟩ := h2
  unfold maxLen at hcm hcm2
  have hll : ((l.length : Int) != (l.length : Int)) = false := by simp
  go_enter Try.func69, Try.ntmps69
  go_wp2_with fail
  go_loopw [5] (fun i wr => ∃ k : Nat, k ≤ l.length ∧ i = .int .i64 k ∧ Gii fE w (.slice a l.length c) (.slice a2 l.length c2) l wr) (fun i _ => l.length - (intOf i).toNat)
  case atStart => exact ⟨0, Nat.zero_le _, rfl, hG⟩
  case round =>
    clear hG
    obtain ⟨k, hk, rfl, hG⟩ := hrel
    by_cases hlt : k < l.length
    · obtain ⟨b, off, c', e, -, -, -⟩ := hG.sl.shape (by omega)
      simp only [Value.slice.injEq] at e
      obtain ⟨rfl, -, rfl⟩ := e
      obtain ⟨b2, off2, c2', e, -, -, -⟩ := hG.su.shape (by omega)
      simp only [Value.slice.injEq] at e
      obtain ⟨rfl, -, rfl⟩ := e
      go_wp2_with fail
      refine region_known (by kernel_rfl) (by kernel_rfl) 0 (by decide) (by kernel_rfl) (fun _ W => Gii fE w (.slice (some ⟨b, off, none⟩) l.length c) (.slice (some ⟨b2, off2, none⟩) l.length c2) l W) [.slice (some ⟨b, off, none⟩) l.length c, .int .i64 (k : Int), .pointer (some ⟨b, off + k * 3, none⟩), (M3.at' l k).val, .slice (some ⟨b2, off2, none⟩) l.length c2, .int .i64 (k : Int), .pointer (some ⟨b2, off2 + k * 3, none⟩), (M3.at' l k).val, .bool true, .bool false] hG.drew ?step ?done
      case step =>
        intro L ix o' A W hj hI hL hd
        have hin : ix < 10 := by
          by_cases hl : ix < 10
          · exact hl
          · simp [hl] at hj
        have hsz : A.tmps.size = 27 := hI.size
        have hg := hI.g
        rcases ix with _ | ix
        · obtain rfl := (Option.some.inj hj).symm
          have e0 : A.eval (.tmp 0) = .slice (some ⟨b, off, none⟩) l.length c := hI.old 0 (by kernel_rfl)
          exact at_op rfl rfl (move_op rfl ⟨_, rfl, e0, hg⟩)
        rcases ix with _ | ix
        · obtain rfl := (Option.some.inj hj).symm
          have e0 : A.eval (.tmp 5) = .int .i64 (k : Int) := hI.old 5 (by kernel_rfl)
          exact at_op rfl rfl (move_op rfl ⟨_, rfl, e0, hg⟩)
        rcases ix with _ | ix
        · obtain rfl := (Option.some.inj hj).symm
          have e0 : A.eval (.tmp 17) = .slice (some ⟨b, off, none⟩) l.length c := hI.val hd 0 17 rfl rfl (by kernel_rfl)
          have e1 : A.eval (.tmp 18) = .int .i64 (k : Int) := hI.val hd 1 18 rfl rfl (by kernel_rfl)
          exact at_op rfl rfl (ixF_op okE rfl e0 e1 (by omega) ⟨_, rfl, rfl, hg⟩)
        rcases ix with _ | ix
        · obtain rfl := (Option.some.inj hj).symm
          have e0 : A.eval (.tmp 19) = .pointer (some ⟨b, off + k * 3, none⟩) := hI.val hd 2 19 rfl rfl (by kernel_rfl)
          exact at_op rfl rfl (elF_op okE rfl e0 (hg.sl.range okE (at_some (by omega))) ⟨_, rfl, rfl, hg⟩)
        rcases ix with _ | ix
        · obtain rfl := (Option.some.inj hj).symm
          have e0 : A.eval (.tmp 1) = .slice (some ⟨b2, off2, none⟩) l.length c2 := hI.old 1 (by kernel_rfl)
          exact at_op rfl rfl (move_op rfl ⟨_, rfl, e0, hg⟩)
        rcases ix with _ | ix
        · obtain rfl := (Option.some.inj hj).symm
          have e0 : A.eval (.tmp 5) = .int .i64 (k : Int) := hI.old 5 (by kernel_rfl)
          exact at_op rfl rfl (move_op rfl ⟨_, rfl, e0, hg⟩)
        rcases ix with _ | ix
        · obtain rfl := (Option.some.inj hj).symm
          have e0 : A.eval (.tmp 21) = .slice (some ⟨b2, off2, none⟩) l.length c2 := hI.val hd 4 21 rfl rfl (by kernel_rfl)
          have e1 : A.eval (.tmp 22) = .int .i64 (k : Int) := hI.val hd 5 22 rfl rfl (by kernel_rfl)
          exact at_op rfl rfl (ixF_op okE rfl e0 e1 (by omega) ⟨_, rfl, rfl, hg⟩)
        rcases ix with _ | ix
        · obtain rfl := (Option.some.inj hj).symm
          have e0 : A.eval (.tmp 23) = .pointer (some ⟨b2, off2 + k * 3, none⟩) := hI.val hd 6 23 rfl rfl (by kernel_rfl)
          exact at_op rfl rfl (elF_op okE rfl e0 (hg.su.range okE (at_some (by omega))) ⟨_, rfl, rfl, hg⟩)
        rcases ix with _ | ix
        · obtain rfl := (Option.some.inj hj).symm
          have e0 : A.eval (.tmp 20) = (M3.at' l k).val := hI.val hd 3 20 rfl rfl (by kernel_rfl)
          have e1 : A.eval (.tmp 24) = (M3.at' l k).val := hI.val hd 7 24 rfl rfl (by kernel_rfl)
          refine at_op rfl rfl (call_op rfl Try.func106 (by kernel_rfl) (by kernel_rfl) ?_)
          simp only [List.map_cons, List.map_nil, e0, e1]
          refine (eqEv_same _ _).mono ?_
          rintro e W1 ⟨rfl, hb⟩
          exact ⟨_, rfl, _, rfl, rfl, hg.below hb⟩
        rcases ix with _ | ix
        · obtain rfl := (Option.some.inj hj).symm
          have e0 : A.eval (.tmp 25) = .bool true := hI.val hd 8 25 rfl rfl (by kernel_rfl)
          refine at_op rfl rfl (val_op (v := .bool false) ?_ ⟨_, rfl, rfl, hg⟩)
          unfold execOp
          simp only [List.getElem_toArray, List.getElem_cons_zero, List.getElem_cons_succ, e0]
          simp [go_sem]
        omega
      case done =>
        intro A W hI
        have hg := hI.g
        have s26 : A.tmps.getD 26 undef = .bool false := hI.last 9 26 rfl
        have hA := hI.frame [17, 18, 19, 20, 21, 22, 23, 24, 25, 26] (by kernel_rfl)
        rw [hA]
        simp only [putAll, List.foldl_cons, List.foldl_nil, s26, Act.put, List.setIfInBounds_toArray, List.set_cons_zero, List.set_cons_succ]
        clear hA hI s26
        go_wp2
        go_roundw
        case rel => exact ⟨k + 1, by omega, by go_num, hg⟩
        case measure => simp [intOf]; omega
    · have hbel := hG.bel
      clear hG
      go_wp2
      go_ret
      exact ⟨rfl, hbel⟩
theorem markEvS_any (v : Value) (l : List M3) (w : World) (base k : Nat) (h : OwnF fE base w v l) (hb : l.length ≤ 4000000) (hk : k ≤ 1000000000) :
    Calls Try.prog 77 #[v, .int .i64 (k : Int)] w fun e w' => e = .returned (.int .i64 ((k + 3 * l.length : Nat) : Int)) ∧ OwnF fE base w' v (marks3 k l.length) ∧ w.grownBy w' v.ownBlock := by
  have HO : Hid (OwnF fE base w v l) := h
  rcases h.2 with ⟨rfl, h0⟩ | ⟨g, cap, cur, rfl, hbg, hg, hn, hm, hcs, ht⟩
  · have hl : l = [] := List.eq_nil_of_length_eq_zero h0
    subst hl
    go_enter Try.func77, Try.ntmps77
    go_wp2
    refine wp_loop_rounds 1 ?_
    rw [rounds_succ]
    go_wp2
    go_ret
    exact ⟨rfl, OwnF.nil _ _ _, World.grownBy.refl _ _⟩
  · unfold maxLen at hm
    clear h hg hcs ht cur
    go_enter Try.func77, Try.ntmps77
    go_wp2_with fail
    go_loopw [1, 5] (fun q i wr => ∃ j : Nat, j ≤ l.length ∧ i = .int .i64 j ∧ q = .int .i64 ((k + 3 * j : Nat) : Int) ∧ OwnF fE base wr (.slice (some ⟨g, 0, none⟩) l.length cap) (marks3 k j ++ l.drop j) ∧ w.grownBy wr (some g)) (fun _ i _ => l.length - (intOf i).toNat)
    case atStart => exact ⟨0, Nat.zero_le _, rfl, rfl, by simpa [marks3] using HO.out, World.grownBy.refl _ _⟩
    case round =>
      obtain ⟨j, hj, rfl, rfl, ho, hgw⟩ := hrel
      obtain ⟨L, HL⟩ : ∃ L, Hid (L = marks3 k j ++ l.drop j) := ⟨_, show _ = _ from rfl⟩
      rw [← HL.out] at ho
      by_cases hlt : j < l.length
      · have hll : j < L.length := by rw [HL.out]; simp [marks3_length]; omega
        have hat := at_some hll
        generalize M3.at' L j = e0 at hat
        obtain ⟨z, hz⟩ : ∃ z, z = k + 3 * j := ⟨_, rfl⟩
        rw [← hz]
        have HZ : Hid (z = k + 3 * j) := hz
        have hzb : z ≤ 1012000000 := by omega
        clear hz
        go_wp2_with (first
          | (refine ixF okE (r := j) rfl rfl rfl rfl hlt ?_)
          | (refine stE okE rfl (e' := ⟨z, e0.k, e0.v⟩) (j := 0) rfl rfl rfl rfl ho hat rfl (by omega) rfl ?_; intro w1 ho1 hg1)
          | (refine stE okE rfl (e' := ⟨z, (z : Int) + 1, e0.v⟩) (j := 1) rfl rfl rfl rfl ho1 (at_set hll) rfl (by omega) rfl ?_; intro w2 ho2 hg2)
          | (refine stE okE rfl (e' := ⟨z, (z : Int) + 1, (z : Int) + 1 + 1⟩) (j := 2) rfl rfl rfl rfl ho2 (at_set (by simpa using hll)) rfl (by omega) rfl ?_; intro w3 ho3 hg3))
        go_roundw
        case rel =>
          refine ⟨j + 1, by omega, by go_num, ?_, ?_, grown_trans (grown_trans (grown_trans hgw hg1) hg2) hg3⟩
          · rw [HZ.out]; go_num
          · rw [← mark3_step k l j hlt, ← HL.out, ← HZ.out]
            have e3 : (⟨z, (z : Int) + 1, (z : Int) + 1 + 1⟩ : M3) = ⟨((z : Nat) : Int), ((z + 1 : Nat) : Int), ((z + 2 : Nat) : Int)⟩ := by simp; omega
            rw [List.set_set, List.set_set, e3] at ho3
            exact ho3
        case measure => simp [intOf]; omega
      · have e : j = l.length := by omega
        subst e
        go_wp2
        go_ret
        exact ⟨rfl, by simpa [HL.out] using ho, hgw⟩
theorem heldEvS_any (v : Value) (n : Nat) (w : World) (k : Nat) (h : SlF fE w v (marks3 k n)) (hb : n ≤ 4000000) (hk : k ≤ 1000000000) :
    Calls Try.prog 80 #[v, .int .i64 (k : Int)] w fun e w' => e = .returned (.int .i64 ((k + 3 * n : Nat) : Int)) ∧ w' = w := by
  have HS : Hid (SlF fE w v (marks3 k n)) := h
  obtain ⟨a, cap, rfl, -, hlc, hcm, -⟩ := h
  unfold maxLen at hcm
  rw [marks3_length] at *
  go_enter Try.func80, Try.ntmps80
  go_wp2_with fail
  go_loop [1, 5] (fun q i => ∃ j : Nat, j ≤ n ∧ i = .int .i64 j ∧ q = .int .i64 ((k + 3 * j : Nat) : Int)) (fun _ i => n - (intOf i).toNat)
  case atStart => exact ⟨0, Nat.zero_le _, rfl, rfl⟩
  case round =>
    obtain ⟨j, hj, rfl, rfl⟩ := hrel
    by_cases hlt : j < n
    · have hll : j < (marks3 k n).length := by rw [marks3_length]; exact hlt
      obtain ⟨b, off, c, e, -, -, -⟩ := HS.out.shape (by rw [marks3_length]; omega)
      simp only [Value.slice.injEq] at e
      obtain ⟨rfl, -, rfl⟩ := e
      have hc := HS.out
      have c0 := hc.cell okE (at_some hll) (j := 0) (by decide)
      have c1 := hc.cell okE (at_some hll) (j := 1) (by decide)
      have c2 := hc.cell okE (at_some hll) (j := 2) (by decide)
      rw [marks3_at k n j hlt] at c0 c1 c2
      clear hc
      obtain ⟨z, hz⟩ : ∃ z, z = k + 3 * j := ⟨_, rfl⟩
      rw [← hz] at c0 c1 c2 ⊢
      have HZ : Hid (z = k + 3 * j) := hz
      have hzb : z ≤ 1012000000 := by omega
      clear hz
      have d0 : w.cell? ⟨b, off + j * fE.n, none⟩ = some (.int .i64 (z : Int)) := c0
      have d1 : w.cell? ⟨b, off + j * fE.n + 1, none⟩ = some (.int .i64 ((z + 1 : Nat) : Int)) := c1
      have d2 : w.cell? ⟨b, off + j * fE.n + 2, none⟩ = some (.int .i64 ((z + 2 : Nat) : Int)) := c2
      clear c0 c1 c2 hll
      go_wp2_with (refine ixF okE (r := j) rfl rfl rfl rfl hlt ?_)
      go_round
      case rel => exact ⟨j + 1, by omega, by go_num, by rw [HZ.out]; go_num⟩
      case measure => simp [intOf]; omega
    · have e : j = n := by omega
      subst e
      go_wp2
      go_ret
      exact ⟨rfl, rfl⟩
end Go.Proofs.Ytjjafaikaghlgaa.Mem
