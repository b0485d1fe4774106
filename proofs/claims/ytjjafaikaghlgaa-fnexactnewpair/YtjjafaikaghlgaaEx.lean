/-
  What the laws' own helpers over lists of numbers answer: a copy, whether two are alike, marks that are set and found again.
-/
import Derived.Test.YtjjafaikaghlgaaSlc
import Derived.Deep.QuietTactic
import Derived.BigQuiet
namespace Go.Proofs.Ytjjafaikaghlgaa.Ex
open Go.ChangeShapes Go.WideShapes Go.RowKit Base Slc
set_option linter.unusedVariables false
set_option maxRecDepth 20000
set_option linter.unusedSimpArgs false

theorem set_step (l : List Int) (k : Nat) (h : k < l.length) : (l.take k ++ List.replicate (l.length - k) 0).set k (l.getD k 0) = l.take (k + 1) ++ List.replicate (l.length - (k + 1)) 0 := by
  rw [getD_take h]
  have e : l.length - k = (l.length - (k + 1)) + 1 := by omega
  rw [e, List.replicate_succ, List.set_append_right _ _ (by simp; omega)]
  have : (l.take k).length = k := by simp; omega
  simp [this]

theorem to_any (v : Value) (l : List Int) (w : World) (h : Sl w v l) (hb : l.length ≤ 4000000) :
    Calls Try.prog 12 #[v] w fun e w' => ∃ v', e = .returned v' ∧ Own w.heap.size w' v' l ∧ Below w.heap.size w w' := by
  obtain ⟨a, cap, rfl, hat, hlc, hcm, hnil⟩ := h
  have HS : Hid (IntsAt w a l.length l) := hat
  unfold maxLen at hcm
  clear hat hnil
  go_enter Try.func12, Try.ntmps12
  go_wp2_with (at_make; refine make64 rfl (.tmp 6) (.tmp 6) rfl w.heap.size l.length _ rfl rfl rfl (by omega) (Nat.le_refl _) ?_; intro w1 ho hg; have HO : Hid (Own w.heap.size w1 (.slice (some ⟨w.heap.size, 0, none⟩) l.length l.length) (l.take 0 ++ List.replicate (l.length - 0) 0) ∧ Below w.heap.size w w1) := ⟨by simpa using ho, (Below.refl _ _).grown hg (Nat.le_refl _) (by simp)⟩; clear ho hg)
  go_loopw [4] (fun i wr => ∃ k : Nat, k ≤ l.length ∧ i = .int .i64 k ∧ Own w.heap.size wr (.slice (some ⟨w.heap.size, 0, none⟩) l.length l.length) (l.take k ++ List.replicate (l.length - k) 0) ∧ Below w.heap.size w wr) (fun i _ => l.length - (intOf i).toNat)
  case atStart => exact ⟨0, Nat.zero_le _, rfl, HO.out.1, HO.out.2⟩
  case round =>
    obtain ⟨k, hk, rfl, ho, hbw⟩ := hrel
    have HO2 : Hid (Own w.heap.size wr (.slice (some ⟨w.heap.size, 0, none⟩) l.length l.length) (l.take k ++ List.replicate (l.length - k) 0)) := ho
    have HB : Hid (Below w.heap.size w wr) := hbw
    by_cases hlt : k < l.length
    · rcases HS.out.2 with h0 | ⟨b, off, rfl, hbl, hcell⟩
      · omega
      · have hz := hcell k hlt
        have hz2 : wr.cell? ⟨b, off + k, none⟩ = some (.int .i64 (l.getD k 0)) := by rw [hbw.cell (p := ⟨b, off + k, none⟩) hbl]; exact hz
        have hc2 := ho.cellAt (j := k) (by simp; omega)
        have hf2 := ho.free k
        clear hcell hz ho hbw
        obtain ⟨z, hzz⟩ : ∃ z, z = l.getD k 0 := ⟨_, rfl⟩
        rw [← hzz] at hz2
        have HZ : Hid (z = l.getD k 0) := hzz
        clear hzz
        obtain ⟨y, hyy⟩ : ∃ y, y = (l.take k ++ List.replicate (l.length - k) 0).getD k 0 := ⟨_, rfl⟩
        rw [← hyy] at hc2
        clear hyy
        go_wp2
        go_roundw
        case rel => exact ⟨k + 1, by omega, by go_num, by rw [← set_step l k hlt, ← HZ.out]; exact (HO2.out.store k z).1, HB.out.grown (HO2.out.store k z).2 HB.out.size (by simp)⟩
        case measure => simp [intOf]; omega
    · clear ho hbw
      go_wp2
      go_ret
      have e : k = l.length := by omega
      subst e
      exact ⟨_, rfl, by simpa using HO2.out, HB.out⟩

theorem take_both {l1 l2 : List Int} {k : Nat} (h : l1.take k = l2.take k) (h1 : k < l1.length) (h2 : k < l2.length) (hz : l1.getD k 0 = l2.getD k 0) : l1.take (k + 1) = l2.take (k + 1) := by
  rw [getD_take h1, getD_take h2, h, hz]
theorem eq_any (v1 v2 : Value) (l1 l2 : List Int) (w : World) (h1 : Sl w v1 l1) (h2 : Sl w v2 l2) :
    Calls Try.prog 15 #[v1, v2] w fun e w' => e = .returned (.bool (decide (l1 = l2))) ∧ ∃ n, w' = w.drewN n := by
  obtain ⟨a1, cap1, rfl, hat1, hlc1, hcm1, hnil1⟩ := h1
  obtain ⟨a2, cap2, rfl, hat2, hlc2, hcm2, hnil2⟩ := h2
  unfold maxLen at hcm1 hcm2
  have H1 : Hid (IntsAt w a1 l1.length l1) := hat1
  have H2 : Hid (IntsAt w a2 l2.length l2) := hat2
  clear hat1 hat2 hnil1 hnil2
  by_cases hll : l1.length = l2.length
  · go_enter Try.func15, Try.ntmps15
    go_wp2
    go_loopw [5] (fun i wr => ∃ k : Nat, k ≤ l1.length ∧ i = .int .i64 k ∧ l1.take k = l2.take k ∧ ∃ n, wr = w.drewN n) (fun i _ => l1.length - (intOf i).toNat)
    case atStart => exact ⟨0, Nat.zero_le _, rfl, rfl, 0, rfl⟩
    case round =>
      obtain ⟨k, hk, rfl, htk, n, rfl⟩ := hrel
      have HT : Hid (l1.take k = l2.take k) := htk
      have HL : Hid (l1.length = l2.length) := hll
      clear htk
      by_cases hlt : k < l1.length
      · rcases H1.out.2 with h0 | ⟨b1, off1, rfl, hbl1, hcell1⟩
        · omega
        · rcases H2.out.2 with h0 | ⟨b2, off2, rfl, hbl2, hcell2⟩
          · omega
          · have hz1 := hcell1 k hlt
            have hz2 := hcell2 k (by omega)
            obtain ⟨z1, hzz1⟩ : ∃ z, z = l1.getD k 0 := ⟨_, rfl⟩
            obtain ⟨z2, hzz2⟩ : ∃ z, z = l2.getD k 0 := ⟨_, rfl⟩
            rw [← hzz1] at hz1
            rw [← hzz2] at hz2
            have hk1 : (k : Int) < (l1.length : Int) := by omega
            have hk2 : (k : Int) < (l2.length : Int) := by omega
            have hk3 : k < l2.length := by omega
            have HZ1 : Hid (z1 = l1.getD k 0) := hzz1
            have HZ2 : Hid (z2 = l2.getD k 0) := hzz2
            clear hzz1 hzz2 hcell1 hcell2 hll
            by_cases hz : z1 = z2
            · have hzt : (z1 == z2) = true := by simp [hz]
              have HZ : Hid (z1 = z2) := hz
              clear hz
              go_wp2
              go_quiet (fail)
              go_wp2
              go_roundw
              case rel => exact ⟨k + 1, by omega, by go_num, take_both HT.out hlt hk3 (by rw [← HZ1.out, ← HZ2.out]; exact HZ.out), _, rfl⟩
              case measure => simp [intOf]; omega
            · have hzf : (z1 == z2) = false := by simp [hz]
              have HD : Hid (decide (l1 = l2) = false) := by show decide (l1 = l2) = false; simp; intro e; exact hz (by rw [HZ1.out, HZ2.out, e])
              clear hz
              go_wp2
              go_quiet (fail)
              go_wp2
              go_ret
              exact ⟨ret_bool HD.out.symm, _, World.drewN_drewN _ _ _⟩
      · clear hll
        go_wp2
        go_ret
        have e1 : l1.take k = l1 := List.take_of_length_le (by omega)
        have e2 : l2.take k = l2 := List.take_of_length_le (by have := HL.out; omega)
        have e3 := HT.out
        rw [e1, e2] at e3
        exact ⟨ret_bool (by simp [e3]), _, rfl⟩
  · have HD : Hid (decide (l1 = l2) = false) := by show decide (l1 = l2) = false; simp; intro e; exact hll (by rw [e])
    have hne : ((l1.length : Int) == (l2.length : Int)) = false := by simp; omega
    go_enter Try.func15, Try.ntmps15
    go_wp2
    go_ret
    exact ⟨ret_bool HD.out.symm, 0, rfl⟩

/-- Marks: one after another, from k on. -/
def marks (k : Nat) : Nat → List Int
  | 0 => []
  | n + 1 => (k : Int) :: marks (k + 1) n
theorem marks_length (k n : Nat) : (marks k n).length = n := by
  induction n generalizing k with
  | zero => rfl
  | succ n ih => simp [marks, ih]
theorem marks_snoc (k n : Nat) : marks k (n + 1) = marks k n ++ [((k + n : Nat) : Int)] := by
  induction n generalizing k with
  | zero => simp [marks]
  | succ n ih =>
    have := ih (k + 1)
    rw [marks, this, marks]
    simp
    omega
theorem marks_getD (k n j : Nat) (h : j < n) : (marks k n).getD j 0 = ((k + j : Nat) : Int) := by
  induction n generalizing k j with
  | zero => omega
  | succ n ih =>
    cases j with
    | zero => simp [marks]
    | succ j =>
      have := ih (k + 1) j (by omega)
      simp only [marks, List.getD_cons_succ, this]
      omega
theorem mark_step (k : Nat) (l : List Int) (j : Nat) (h : j < l.length) : (marks k j ++ l.drop j).set j ((k + j : Nat) : Int) = marks k (j + 1) ++ l.drop (j + 1) := by
  rw [marks_snoc, List.set_append_right _ _ (by rw [marks_length]; omega), marks_length, Nat.sub_self, List.drop_eq_getElem_cons h, List.set_cons_zero]
  simp

theorem mark_any (v : Value) (l : List Int) (w : World) (base k : Nat) (h : Own base w v l) (hb : l.length ≤ 4000000) (hk : k ≤ 1000000000) :
    Calls Try.prog 17 #[v, .int .i64 (k : Int)] w fun e w' => e = .returned (.int .i64 ((k + l.length : Nat) : Int)) ∧ Own base w' v (marks k l.length) ∧ w.grownBy w' v.ownBlock := by
  have HO : Hid (Own base w v l) := h
  rcases h.2 with ⟨rfl, h0⟩ | ⟨g, cap, cur, rfl, hbg, hg, hn, hm, hcs, ht⟩
  · have hl : l = [] := List.eq_nil_of_length_eq_zero h0
    subst hl
    go_enter Try.func17, Try.ntmps17
    go_wp2
    refine wp_loop_rounds 1 ?_
    rw [rounds_succ]
    go_wp2
    go_ret
    exact ⟨rfl, Own.nil _ _, World.grownBy.refl _ _⟩
  · unfold maxLen at hm
    clear h hg hcs ht cur
    go_enter Try.func17, Try.ntmps17
    go_wp2
    go_loopw [1, 5] (fun q i wr => ∃ j : Nat, j ≤ l.length ∧ i = .int .i64 j ∧ q = .int .i64 ((k + j : Nat) : Int) ∧ Own base wr (.slice (some ⟨g, 0, none⟩) l.length cap) (marks k j ++ l.drop j) ∧ w.grownBy wr (some g)) (fun _ i _ => l.length - (intOf i).toNat)
    case atStart => exact ⟨0, Nat.zero_le _, rfl, rfl, by simpa [marks] using HO.out, World.grownBy.refl _ _⟩
    case round =>
      obtain ⟨j, hj, rfl, rfl, ho, hgw⟩ := hrel
      have HO2 : Hid (Own base wr (.slice (some ⟨g, 0, none⟩) l.length cap) (marks k j ++ l.drop j)) := ho
      have HG : Hid (w.grownBy wr (some g)) := hgw
      clear hgw
      by_cases hlt : j < l.length
      · have hc2 := ho.cellAt (j := j) (by simp [marks_length]; omega)
        have hf2 := ho.free j
        clear ho
        obtain ⟨y, hyy⟩ : ∃ y, y = (marks k j ++ l.drop j).getD j 0 := ⟨_, rfl⟩
        rw [← hyy] at hc2
        clear hyy
        go_wp2
        go_roundw
        case rel => exact ⟨j + 1, by omega, by go_num, by go_num, by rw [← mark_step k l j hlt]; exact (HO2.out.store j _).1, grown_trans HG.out (HO2.out.store j _).2⟩
        case measure => simp [intOf]; omega
      · clear ho
        go_wp2
        go_ret
        have e : j = l.length := by omega
        subst e
        exact ⟨rfl, by simpa using HO2.out, HG.out⟩

theorem held_any (v : Value) (n : Nat) (w : World) (k : Nat) (h : Sl w v (marks k n)) (hb : n ≤ 4000000) (hk : k ≤ 1000000000) :
    Calls Try.prog 78 #[v, .int .i64 (k : Int)] w fun e w' => e = .returned (.int .i64 ((k + n : Nat) : Int)) ∧ w' = w := by
  obtain ⟨a, cap, rfl, hat, hlc, hcm, hnil⟩ := h
  unfold maxLen at hcm
  obtain ⟨hlen, hc⟩ := hat
  rw [marks_length] at *
  clear hnil hlen
  go_enter Try.func78, Try.ntmps78
  go_wp2
  go_loop [1, 5] (fun q i => ∃ j : Nat, j ≤ n ∧ i = .int .i64 j ∧ q = .int .i64 ((k + j : Nat) : Int)) (fun _ i => n - (intOf i).toNat)
  case atStart => exact ⟨0, Nat.zero_le _, rfl, rfl⟩
  case round =>
    obtain ⟨j, hj, rfl, rfl⟩ := hrel
    by_cases hlt : j < n
    · rcases hc with h0 | ⟨b, off, rfl, hbl, hcell⟩
      · omega
      · have hz := hcell j hlt
        rw [marks_getD k n j hlt] at hz
        clear hcell
        go_wp2
        go_round
        case rel => exact ⟨j + 1, by omega, by go_num, by go_num⟩
        case measure => simp [intOf]; omega
    · go_wp2
      go_ret
      have e : j = n := by omega
      subst e
      exact ⟨rfl, rfl⟩
end Go.Proofs.Ytjjafaikaghlgaa.Ex
