/-
  Inboxes: the model's functions.
-/
import Derived.Test.YtjjafaikaghlgaaMsg
import Derived.Test.YtjjafaikaghlgaaGat
namespace Go.Proofs.Ytjjafaikaghlgaa.Mem
open Go.ChangeShapes Go.WideShapes Go.RowKit Base Num Slc Slf Rw Tmr Reg
set_option linter.unusedVariables false
set_option linter.unusedSimpArgs false
set_option maxRecDepth 20000

theorem fitsTo_succ (l : List M3) (k : Nat) : fitsTo l (k + 1) = (fitsTo l k && fits l k) := by
  simp [fitsTo, List.range_succ, List.all_append]
theorem fitsTo_no {l : List M3} {k n : Nat} (hk : k < n) (h : fits l k = false) : fitsTo l n = false := by
  simp only [fitsTo]
  rw [List.all_eq_false]
  exact ⟨k, List.mem_range.2 hk, by simp [h]⟩
/-- A list of messages that is read, by a call that writes nothing old. -/
structure Gi (w : World) (v : Value) (l : List M3) (W : World) : Prop where
  sl : SlF fM W v l
  bel : Below w.heap.size w W
theorem Gi.below {w W W' : World} {v : Value} {l : List M3} (h : Gi w v l W) (hb : Below W.heap.size W W') : Gi w v l W' := ⟨h.sl.below hb, below_more h.bel hb⟩
theorem Gi.drew {w W : World} {v : Value} {l : List M3} (h : Gi w v l W) : Gi w v l W.drew := h.below (drew_below (n := 1) rfl)
set_option maxRecDepth 20000 in
set_option maxHeartbeats 1000000 in
theorem inboxOk_spec (v : Value) (l : List M3) (w : World) (h : SlF fM w v l) :
    Calls Try.prog 55 #[v] w fun e w' => e = .returned (.bool (inboxOk l)) ∧ Below w.heap.size w w' := by
  by_cases h0 : 0 < l.length
  · obtain ⟨b, off, c, rfl, hbl, hlc, hcm⟩ := h.shape h0
    unfold maxLen at hcm
    have hG : Gi w (.slice (some ⟨b, off, none⟩) l.length c) l w := ⟨h, Below.refl _ _⟩
    clear h hbl
    go_enter Try.func55, Try.ntmps55
    go_wp2_with fail
    go_loopw [3] (fun i wr => ∃ k : Nat, k ≤ l.length ∧ i = .int .i64 k ∧ fitsTo l k = true ∧ Gi w (.slice (some ⟨b, off, none⟩) l.length c) l wr) (fun i _ => l.length - (intOf i).toNat)
    case atStart => exact ⟨0, Nat.zero_le _, rfl, rfl, hG⟩
    case round =>
      clear hG
      obtain ⟨k, hk, rfl, hft, hG⟩ := hrel
      by_cases hlt' : k < l.length
      · cases hok : (M3.at' l k).ok
        · have HF : Hid (inboxOk l = false) := show _ = _ by unfold inboxOk; rw [fitsTo_no hlt' (by unfold fits; rw [hok]; rfl)]; rfl
          go_wp2_with fail
          refine region_known (by kernel_rfl) (by kernel_rfl) 0 (by decide) (by kernel_rfl) (fun _ W => Gi w (.slice (some ⟨b, off, none⟩) l.length c) l W) [.slice (some ⟨b, off, none⟩) l.length c, .int .i64 (k : Int), .pointer (some ⟨b, off + k * 3, none⟩), (M3.at' l k).val, .bool false, .bool true, .bool true, undef, undef, undef, undef, undef, undef, undef, undef, undef, undef, undef, undef, undef, undef, .bool true] hG.drew ?step ?done
          case step =>
            intro L ix o' A W hj hI hL hd
            have hin : ix < 22 := by
              by_cases hl : ix < 22
              · exact hl
              · simp [hl] at hj
            have hsz : A.tmps.size = 35 := hI.size
            have hg := hI.g
            rcases ix with _ | ix
            · obtain rfl := (Option.some.inj hj).symm
              have e0 : A.eval (.tmp 0) = .slice (some ⟨b, off, none⟩) l.length c := hI.old 0 (by kernel_rfl)
              exact at_op rfl rfl (move_op rfl ⟨_, rfl, e0, hg⟩)
            rcases ix with _ | ix
            · obtain rfl := (Option.some.inj hj).symm
              have e0 : A.eval (.tmp 3) = .int .i64 (k : Int) := hI.old 3 (by kernel_rfl)
              exact at_op rfl rfl (move_op rfl ⟨_, rfl, e0, hg⟩)
            rcases ix with _ | ix
            · obtain rfl := (Option.some.inj hj).symm
              have e0 : A.eval (.tmp 10) = .slice (some ⟨b, off, none⟩) l.length c := hI.val hd 0 10 rfl rfl (by kernel_rfl)
              have e1 : A.eval (.tmp 11) = .int .i64 (k : Int) := hI.val hd 1 11 rfl rfl (by kernel_rfl)
              exact at_op rfl rfl (ixF_op okM rfl e0 e1 (by omega) ⟨_, rfl, rfl, hg⟩)
            rcases ix with _ | ix
            · obtain rfl := (Option.some.inj hj).symm
              have e0 : A.eval (.tmp 12) = .pointer (some ⟨b, off + k * 3, none⟩) := hI.val hd 2 12 rfl rfl (by kernel_rfl)
              exact at_op rfl rfl (elF_op okM rfl e0 (hg.sl.range okM (at_some (by omega))) ⟨_, rfl, rfl, hg⟩)
            rcases ix with _ | ix
            · obtain rfl := (Option.some.inj hj).symm
              have e0 : A.eval (.tmp 13) = (M3.at' l k).val := hI.val hd 3 13 rfl rfl (by kernel_rfl)
              refine at_op rfl rfl (call_op rfl Try.func87 (by kernel_rfl) (by kernel_rfl) ?_)
              simp only [List.map_cons, List.map_nil, e0]
              refine (l9MsgOk_spec _ _).mono ?_
              rw [hok]
              rintro e W1 ⟨rfl, hb⟩
              exact ⟨_, rfl, _, rfl, rfl, hg.below hb⟩
            rcases ix with _ | ix
            · obtain rfl := (Option.some.inj hj).symm
              have e0 : A.eval (.tmp 14) = .bool false := hI.val hd 4 14 rfl rfl (by kernel_rfl)
              refine at_op rfl rfl (val_op (v := .bool true) ?_ ⟨_, rfl, rfl, hg⟩)
              unfold execOp
              simp only [List.getElem_toArray, List.getElem_cons_zero, List.getElem_cons_succ, e0]
              simp [go_sem]
            rcases ix with _ | ix
            · obtain rfl := (Option.some.inj hj).symm
              have e0 : A.eval (.tmp 15) = .bool true := hI.val hd 5 15 rfl rfl (by kernel_rfl)
              exact at_op rfl rfl (move_op rfl ⟨_, rfl, e0, hg⟩)
            rcases ix with _ | ix
            · obtain rfl := (Option.some.inj hj).symm
              have hgv : A.tmps.getD 16 undef = .bool true := hI.val hd 6 16 rfl rfl (by kernel_rfl)
              exact at_skip rfl rfl (j := 6) (k := 16) rfl (by rw [hgv]; simp [undef]) ⟨_, rfl, rfl, hg⟩
            rcases ix with _ | ix
            · obtain rfl := (Option.some.inj hj).symm
              have hgv : A.tmps.getD 16 undef = .bool true := hI.val hd 6 16 rfl rfl (by kernel_rfl)
              exact at_skip rfl rfl (j := 6) (k := 16) rfl (by rw [hgv]; simp [undef]) ⟨_, rfl, rfl, hg⟩
            rcases ix with _ | ix
            · obtain rfl := (Option.some.inj hj).symm
              have hgv : A.tmps.getD 16 undef = .bool true := hI.val hd 6 16 rfl rfl (by kernel_rfl)
              exact at_skip rfl rfl (j := 6) (k := 16) rfl (by rw [hgv]; simp [undef]) ⟨_, rfl, rfl, hg⟩
            rcases ix with _ | ix
            · obtain rfl := (Option.some.inj hj).symm
              have hgv : A.tmps.getD 19 undef = undef := hI.val hd 9 19 rfl rfl (by kernel_rfl)
              exact at_skip rfl rfl (j := 9) (k := 19) rfl (by rw [hgv]; simp [undef]) ⟨_, rfl, rfl, hg⟩
            rcases ix with _ | ix
            · obtain rfl := (Option.some.inj hj).symm
              have hgv : A.tmps.getD 19 undef = undef := hI.val hd 9 19 rfl rfl (by kernel_rfl)
              exact at_skip rfl rfl (j := 9) (k := 19) rfl (by rw [hgv]; simp [undef]) ⟨_, rfl, rfl, hg⟩
            rcases ix with _ | ix
            · obtain rfl := (Option.some.inj hj).symm
              have hgv : A.tmps.getD 19 undef = undef := hI.val hd 9 19 rfl rfl (by kernel_rfl)
              exact at_skip rfl rfl (j := 9) (k := 19) rfl (by rw [hgv]; simp [undef]) ⟨_, rfl, rfl, hg⟩
            rcases ix with _ | ix
            · obtain rfl := (Option.some.inj hj).symm
              have hgv : A.tmps.getD 19 undef = undef := hI.val hd 9 19 rfl rfl (by kernel_rfl)
              exact at_skip rfl rfl (j := 9) (k := 19) rfl (by rw [hgv]; simp [undef]) ⟨_, rfl, rfl, hg⟩
            rcases ix with _ | ix
            · obtain rfl := (Option.some.inj hj).symm
              have hgv : A.tmps.getD 19 undef = undef := hI.val hd 9 19 rfl rfl (by kernel_rfl)
              exact at_skip rfl rfl (j := 9) (k := 19) rfl (by rw [hgv]; simp [undef]) ⟨_, rfl, rfl, hg⟩
            rcases ix with _ | ix
            · obtain rfl := (Option.some.inj hj).symm
              have hgv : A.tmps.getD 19 undef = undef := hI.val hd 9 19 rfl rfl (by kernel_rfl)
              exact at_skip rfl rfl (j := 9) (k := 19) rfl (by rw [hgv]; simp [undef]) ⟨_, rfl, rfl, hg⟩
            rcases ix with _ | ix
            · obtain rfl := (Option.some.inj hj).symm
              have hgv : A.tmps.getD 19 undef = undef := hI.val hd 9 19 rfl rfl (by kernel_rfl)
              exact at_skip rfl rfl (j := 9) (k := 19) rfl (by rw [hgv]; simp [undef]) ⟨_, rfl, rfl, hg⟩
            rcases ix with _ | ix
            · obtain rfl := (Option.some.inj hj).symm
              have hgv : A.tmps.getD 19 undef = undef := hI.val hd 9 19 rfl rfl (by kernel_rfl)
              exact at_skip rfl rfl (j := 9) (k := 19) rfl (by rw [hgv]; simp [undef]) ⟨_, rfl, rfl, hg⟩
            rcases ix with _ | ix
            · obtain rfl := (Option.some.inj hj).symm
              have hgv : A.tmps.getD 19 undef = undef := hI.val hd 9 19 rfl rfl (by kernel_rfl)
              exact at_skip rfl rfl (j := 9) (k := 19) rfl (by rw [hgv]; simp [undef]) ⟨_, rfl, rfl, hg⟩
            rcases ix with _ | ix
            · obtain rfl := (Option.some.inj hj).symm
              have hgv : A.tmps.getD 19 undef = undef := hI.val hd 9 19 rfl rfl (by kernel_rfl)
              exact at_skip rfl rfl (j := 9) (k := 19) rfl (by rw [hgv]; simp [undef]) ⟨_, rfl, rfl, hg⟩
            rcases ix with _ | ix
            · obtain rfl := (Option.some.inj hj).symm
              have hgv : A.tmps.getD 16 undef = .bool true := hI.val hd 6 16 rfl rfl (by kernel_rfl)
              exact at_skip rfl rfl (j := 6) (k := 16) rfl (by rw [hgv]; simp [undef]) ⟨_, rfl, rfl, hg⟩
            rcases ix with _ | ix
            · obtain rfl := (Option.some.inj hj).symm
              have e0 : A.eval (.tmp 16) = .bool true := hI.val hd 6 16 rfl rfl (by kernel_rfl)
              have e1 : A.eval (.tmp 30) = undef := hI.val hd 20 30 rfl rfl (by kernel_rfl)
              exact at_op rfl rfl (pick_op rfl e0 ⟨_, rfl, rfl, hg⟩)
            omega
          case done =>
            intro A W hI
            have hg := hI.g
            have s31 : A.tmps.getD 31 undef = .bool true := hI.last 21 31 rfl
            have hA := hI.frame [10, 11, 12, 13, 14, 15, 16, 17, 18, 19, 20, 21, 22, 23, 24, 25, 26, 27, 28, 29, 30, 31] (by kernel_rfl)
            rw [hA]
            simp only [putAll, List.foldl_cons, List.foldl_nil, s31, Act.put, List.setIfInBounds_toArray, List.set_cons_zero, List.set_cons_succ]
            clear hA hI s31
            go_wp2
            go_ret
            exact ⟨ret_bool (by rw [HF.out]), hg.bel⟩
        · by_cases hk0 : 0 < k
          · cases hlt : later (M3.at' l (k - 1)) (M3.at' l k)
            · have HF : Hid (fitsTo l (k + 1) = true) := show _ = _ by rw [fitsTo_succ, hft]; unfold fits; rw [hok, hlt]; simp
              go_wp2_with fail
              refine region_known (by kernel_rfl) (by kernel_rfl) 0 (by decide) (by kernel_rfl) (fun _ W => Gi w (.slice (some ⟨b, off, none⟩) l.length c) l W) [.slice (some ⟨b, off, none⟩) l.length c, .int .i64 (k : Int), .pointer (some ⟨b, off + k * 3, none⟩), (M3.at' l k).val, .bool true, .bool false, .bool false, .int .i64 (k : Int), .bool true, .bool true, .slice (some ⟨b, off, none⟩) l.length c, .int .i64 (k : Int), .int .i64 ((k - 1 : Nat) : Int), .pointer (some ⟨b, off + (k - 1) * 3, none⟩), (M3.at' l (k - 1)).val, .slice (some ⟨b, off, none⟩) l.length c, .int .i64 (k : Int), .pointer (some ⟨b, off + k * 3, none⟩), (M3.at' l k).val, .bool false, .bool false, .bool false] hG.drew ?step ?done
              case step =>
                intro L ix o' A W hj hI hL hd
                have hin : ix < 22 := by
                  by_cases hl : ix < 22
                  · exact hl
                  · simp [hl] at hj
                have hsz : A.tmps.size = 35 := hI.size
                have hg := hI.g
                rcases ix with _ | ix
                · obtain rfl := (Option.some.inj hj).symm
                  have e0 : A.eval (.tmp 0) = .slice (some ⟨b, off, none⟩) l.length c := hI.old 0 (by kernel_rfl)
                  exact at_op rfl rfl (move_op rfl ⟨_, rfl, e0, hg⟩)
                rcases ix with _ | ix
                · obtain rfl := (Option.some.inj hj).symm
                  have e0 : A.eval (.tmp 3) = .int .i64 (k : Int) := hI.old 3 (by kernel_rfl)
                  exact at_op rfl rfl (move_op rfl ⟨_, rfl, e0, hg⟩)
                rcases ix with _ | ix
                · obtain rfl := (Option.some.inj hj).symm
                  have e0 : A.eval (.tmp 10) = .slice (some ⟨b, off, none⟩) l.length c := hI.val hd 0 10 rfl rfl (by kernel_rfl)
                  have e1 : A.eval (.tmp 11) = .int .i64 (k : Int) := hI.val hd 1 11 rfl rfl (by kernel_rfl)
                  exact at_op rfl rfl (ixF_op okM rfl e0 e1 (by omega) ⟨_, rfl, rfl, hg⟩)
                rcases ix with _ | ix
                · obtain rfl := (Option.some.inj hj).symm
                  have e0 : A.eval (.tmp 12) = .pointer (some ⟨b, off + k * 3, none⟩) := hI.val hd 2 12 rfl rfl (by kernel_rfl)
                  exact at_op rfl rfl (elF_op okM rfl e0 (hg.sl.range okM (at_some (by omega))) ⟨_, rfl, rfl, hg⟩)
                rcases ix with _ | ix
                · obtain rfl := (Option.some.inj hj).symm
                  have e0 : A.eval (.tmp 13) = (M3.at' l k).val := hI.val hd 3 13 rfl rfl (by kernel_rfl)
                  refine at_op rfl rfl (call_op rfl Try.func87 (by kernel_rfl) (by kernel_rfl) ?_)
                  simp only [List.map_cons, List.map_nil, e0]
                  refine (l9MsgOk_spec _ _).mono ?_
                  rw [hok]
                  rintro e W1 ⟨rfl, hb⟩
                  exact ⟨_, rfl, _, rfl, rfl, hg.below hb⟩
                rcases ix with _ | ix
                · obtain rfl := (Option.some.inj hj).symm
                  have e0 : A.eval (.tmp 14) = .bool true := hI.val hd 4 14 rfl rfl (by kernel_rfl)
                  refine at_op rfl rfl (val_op (v := .bool false) ?_ ⟨_, rfl, rfl, hg⟩)
                  unfold execOp
                  simp only [List.getElem_toArray, List.getElem_cons_zero, List.getElem_cons_succ, e0]
                  simp [go_sem]
                rcases ix with _ | ix
                · obtain rfl := (Option.some.inj hj).symm
                  have e0 : A.eval (.tmp 15) = .bool false := hI.val hd 5 15 rfl rfl (by kernel_rfl)
                  exact at_op rfl rfl (move_op rfl ⟨_, rfl, e0, hg⟩)
                rcases ix with _ | ix
                · obtain rfl := (Option.some.inj hj).symm
                  have hgv : A.tmps.getD 16 undef = .bool false := hI.val hd 6 16 rfl rfl (by kernel_rfl)
                  have e0 : A.eval (.tmp 3) = .int .i64 (k : Int) := hI.old 3 (by kernel_rfl)
                  exact at_guard rfl rfl (j := 6) (k := 16) rfl (by omega) hgv (move_op rfl ⟨_, rfl, e0, hg⟩)
                rcases ix with _ | ix
                · obtain rfl := (Option.some.inj hj).symm
                  have hgv : A.tmps.getD 16 undef = .bool false := hI.val hd 6 16 rfl rfl (by kernel_rfl)
                  have e0 : A.eval (.tmp 17) = .int .i64 (k : Int) := hI.val hd 7 17 rfl rfl (by kernel_rfl)
                  exact at_guard rfl rfl (j := 6) (k := 16) rfl (by omega) hgv (bin_op (vy := .int .i64 0) rfl e0 rfl (fun w => by first | (simp [go_sem]; done) | (simp [go_sem]; omega)) ⟨_, rfl, rfl, hg⟩)
                rcases ix with _ | ix
                · obtain rfl := (Option.some.inj hj).symm
                  have hgv : A.tmps.getD 16 undef = .bool false := hI.val hd 6 16 rfl rfl (by kernel_rfl)
                  have e0 : A.eval (.tmp 18) = .bool true := hI.val hd 8 18 rfl rfl (by kernel_rfl)
                  exact at_guard rfl rfl (j := 6) (k := 16) rfl (by omega) hgv (move_op rfl ⟨_, rfl, e0, hg⟩)
                rcases ix with _ | ix
                · obtain rfl := (Option.some.inj hj).symm
                  have hgv : A.tmps.getD 19 undef = .bool true := hI.val hd 9 19 rfl rfl (by kernel_rfl)
                  have e0 : A.eval (.tmp 0) = .slice (some ⟨b, off, none⟩) l.length c := hI.old 0 (by kernel_rfl)
                  exact at_guard rfl rfl (j := 9) (k := 19) rfl (by omega) hgv (move_op rfl ⟨_, rfl, e0, hg⟩)
                rcases ix with _ | ix
                · obtain rfl := (Option.some.inj hj).symm
                  have hgv : A.tmps.getD 19 undef = .bool true := hI.val hd 9 19 rfl rfl (by kernel_rfl)
                  have e0 : A.eval (.tmp 3) = .int .i64 (k : Int) := hI.old 3 (by kernel_rfl)
                  exact at_guard rfl rfl (j := 9) (k := 19) rfl (by omega) hgv (move_op rfl ⟨_, rfl, e0, hg⟩)
                rcases ix with _ | ix
                · obtain rfl := (Option.some.inj hj).symm
                  have hgv : A.tmps.getD 19 undef = .bool true := hI.val hd 9 19 rfl rfl (by kernel_rfl)
                  have e0 : A.eval (.tmp 21) = .int .i64 (k : Int) := hI.val hd 11 21 rfl rfl (by kernel_rfl)
                  exact at_guard rfl rfl (j := 9) (k := 19) rfl (by omega) hgv (bin_op (vy := .int .i64 1) rfl e0 rfl (fun w => by rw [show ((k - 1 : Nat) : Int) = (k : Int) - 1 from by omega]; exact subN _ _ _ _ w (by omega) (by omega)) ⟨_, rfl, rfl, hg⟩)
                rcases ix with _ | ix
                · obtain rfl := (Option.some.inj hj).symm
                  have hgv : A.tmps.getD 19 undef = .bool true := hI.val hd 9 19 rfl rfl (by kernel_rfl)
                  have e0 : A.eval (.tmp 20) = .slice (some ⟨b, off, none⟩) l.length c := hI.val hd 10 20 rfl rfl (by kernel_rfl)
                  have e1 : A.eval (.tmp 22) = .int .i64 ((k - 1 : Nat) : Int) := hI.val hd 12 22 rfl rfl (by kernel_rfl)
                  exact at_guard rfl rfl (j := 9) (k := 19) rfl (by omega) hgv (ixF_op okM rfl e0 e1 (by omega) ⟨_, rfl, rfl, hg⟩)
                rcases ix with _ | ix
                · obtain rfl := (Option.some.inj hj).symm
                  have hgv : A.tmps.getD 19 undef = .bool true := hI.val hd 9 19 rfl rfl (by kernel_rfl)
                  have e0 : A.eval (.tmp 23) = .pointer (some ⟨b, off + (k - 1) * 3, none⟩) := hI.val hd 13 23 rfl rfl (by kernel_rfl)
                  exact at_guard rfl rfl (j := 9) (k := 19) rfl (by omega) hgv (elF_op okM rfl e0 (hg.sl.range okM (at_some (by omega))) ⟨_, rfl, rfl, hg⟩)
                rcases ix with _ | ix
                · obtain rfl := (Option.some.inj hj).symm
                  have hgv : A.tmps.getD 19 undef = .bool true := hI.val hd 9 19 rfl rfl (by kernel_rfl)
                  have e0 : A.eval (.tmp 0) = .slice (some ⟨b, off, none⟩) l.length c := hI.old 0 (by kernel_rfl)
                  exact at_guard rfl rfl (j := 9) (k := 19) rfl (by omega) hgv (move_op rfl ⟨_, rfl, e0, hg⟩)
                rcases ix with _ | ix
                · obtain rfl := (Option.some.inj hj).symm
                  have hgv : A.tmps.getD 19 undef = .bool true := hI.val hd 9 19 rfl rfl (by kernel_rfl)
                  have e0 : A.eval (.tmp 3) = .int .i64 (k : Int) := hI.old 3 (by kernel_rfl)
                  exact at_guard rfl rfl (j := 9) (k := 19) rfl (by omega) hgv (move_op rfl ⟨_, rfl, e0, hg⟩)
                rcases ix with _ | ix
                · obtain rfl := (Option.some.inj hj).symm
                  have hgv : A.tmps.getD 19 undef = .bool true := hI.val hd 9 19 rfl rfl (by kernel_rfl)
                  have e0 : A.eval (.tmp 25) = .slice (some ⟨b, off, none⟩) l.length c := hI.val hd 15 25 rfl rfl (by kernel_rfl)
                  have e1 : A.eval (.tmp 26) = .int .i64 (k : Int) := hI.val hd 16 26 rfl rfl (by kernel_rfl)
                  exact at_guard rfl rfl (j := 9) (k := 19) rfl (by omega) hgv (ixF_op okM rfl e0 e1 (by omega) ⟨_, rfl, rfl, hg⟩)
                rcases ix with _ | ix
                · obtain rfl := (Option.some.inj hj).symm
                  have hgv : A.tmps.getD 19 undef = .bool true := hI.val hd 9 19 rfl rfl (by kernel_rfl)
                  have e0 : A.eval (.tmp 27) = .pointer (some ⟨b, off + k * 3, none⟩) := hI.val hd 17 27 rfl rfl (by kernel_rfl)
                  exact at_guard rfl rfl (j := 9) (k := 19) rfl (by omega) hgv (elF_op okM rfl e0 (hg.sl.range okM (at_some (by omega))) ⟨_, rfl, rfl, hg⟩)
                rcases ix with _ | ix
                · obtain rfl := (Option.some.inj hj).symm
                  have hgv : A.tmps.getD 19 undef = .bool true := hI.val hd 9 19 rfl rfl (by kernel_rfl)
                  have e0 : A.eval (.tmp 24) = (M3.at' l (k - 1)).val := hI.val hd 14 24 rfl rfl (by kernel_rfl)
                  have e1 : A.eval (.tmp 28) = (M3.at' l k).val := hI.val hd 18 28 rfl rfl (by kernel_rfl)
                  refine at_guard rfl rfl (j := 9) (k := 19) rfl (by omega) hgv (call_op rfl Try.func88 (by kernel_rfl) (by kernel_rfl) ?_)
                  simp only [List.map_cons, List.map_nil, e0, e1]
                  refine (l9Later_spec _ _ _).mono ?_
                  rw [hlt]
                  rintro e W1 ⟨rfl, hb⟩
                  exact ⟨_, rfl, _, rfl, rfl, hg.below hb⟩
                rcases ix with _ | ix
                · obtain rfl := (Option.some.inj hj).symm
                  have hgv : A.tmps.getD 16 undef = .bool false := hI.val hd 6 16 rfl rfl (by kernel_rfl)
                  have e0 : A.eval (.tmp 19) = .bool true := hI.val hd 9 19 rfl rfl (by kernel_rfl)
                  have e1 : A.eval (.tmp 29) = .bool false := hI.val hd 19 29 rfl rfl (by kernel_rfl)
                  exact at_guard rfl rfl (j := 6) (k := 16) rfl (by omega) hgv (pick_op rfl e0 ⟨_, rfl, e1, hg⟩)
                rcases ix with _ | ix
                · obtain rfl := (Option.some.inj hj).symm
                  have e0 : A.eval (.tmp 16) = .bool false := hI.val hd 6 16 rfl rfl (by kernel_rfl)
                  have e1 : A.eval (.tmp 30) = .bool false := hI.val hd 20 30 rfl rfl (by kernel_rfl)
                  exact at_op rfl rfl (pick_op rfl e0 ⟨_, rfl, e1, hg⟩)
                omega
              case done =>
                intro A W hI
                have hg := hI.g
                have s31 : A.tmps.getD 31 undef = .bool false := hI.last 21 31 rfl
                have hA := hI.frame [10, 11, 12, 13, 14, 15, 16, 17, 18, 19, 20, 21, 22, 23, 24, 25, 26, 27, 28, 29, 30, 31] (by kernel_rfl)
                rw [hA]
                simp only [putAll, List.foldl_cons, List.foldl_nil, s31, Act.put, List.setIfInBounds_toArray, List.set_cons_zero, List.set_cons_succ]
                clear hA hI s31
                go_wp2
                go_roundw
                case rel => exact ⟨k + 1, by omega, by go_num, HF.out, hg⟩
                case measure => simp [intOf]; omega
            · have HF : Hid (inboxOk l = false) := show _ = _ by unfold inboxOk; rw [fitsTo_no hlt' (by unfold fits; rw [hok, hlt]; simp [hk0])]; rfl
              go_wp2_with fail
              refine region_known (by kernel_rfl) (by kernel_rfl) 0 (by decide) (by kernel_rfl) (fun _ W => Gi w (.slice (some ⟨b, off, none⟩) l.length c) l W) [.slice (some ⟨b, off, none⟩) l.length c, .int .i64 (k : Int), .pointer (some ⟨b, off + k * 3, none⟩), (M3.at' l k).val, .bool true, .bool false, .bool false, .int .i64 (k : Int), .bool true, .bool true, .slice (some ⟨b, off, none⟩) l.length c, .int .i64 (k : Int), .int .i64 ((k - 1 : Nat) : Int), .pointer (some ⟨b, off + (k - 1) * 3, none⟩), (M3.at' l (k - 1)).val, .slice (some ⟨b, off, none⟩) l.length c, .int .i64 (k : Int), .pointer (some ⟨b, off + k * 3, none⟩), (M3.at' l k).val, .bool true, .bool true, .bool true] hG.drew ?step ?done
              case step =>
                intro L ix o' A W hj hI hL hd
                have hin : ix < 22 := by
                  by_cases hl : ix < 22
                  · exact hl
                  · simp [hl] at hj
                have hsz : A.tmps.size = 35 := hI.size
                have hg := hI.g
                rcases ix with _ | ix
                · obtain rfl := (Option.some.inj hj).symm
                  have e0 : A.eval (.tmp 0) = .slice (some ⟨b, off, none⟩) l.length c := hI.old 0 (by kernel_rfl)
                  exact at_op rfl rfl (move_op rfl ⟨_, rfl, e0, hg⟩)
                rcases ix with _ | ix
                · obtain rfl := (Option.some.inj hj).symm
                  have e0 : A.eval (.tmp 3) = .int .i64 (k : Int) := hI.old 3 (by kernel_rfl)
                  exact at_op rfl rfl (move_op rfl ⟨_, rfl, e0, hg⟩)
                rcases ix with _ | ix
                · obtain rfl := (Option.some.inj hj).symm
                  have e0 : A.eval (.tmp 10) = .slice (some ⟨b, off, none⟩) l.length c := hI.val hd 0 10 rfl rfl (by kernel_rfl)
                  have e1 : A.eval (.tmp 11) = .int .i64 (k : Int) := hI.val hd 1 11 rfl rfl (by kernel_rfl)
                  exact at_op rfl rfl (ixF_op okM rfl e0 e1 (by omega) ⟨_, rfl, rfl, hg⟩)
                rcases ix with _ | ix
                · obtain rfl := (Option.some.inj hj).symm
                  have e0 : A.eval (.tmp 12) = .pointer (some ⟨b, off + k * 3, none⟩) := hI.val hd 2 12 rfl rfl (by kernel_rfl)
                  exact at_op rfl rfl (elF_op okM rfl e0 (hg.sl.range okM (at_some (by omega))) ⟨_, rfl, rfl, hg⟩)
                rcases ix with _ | ix
                · obtain rfl := (Option.some.inj hj).symm
                  have e0 : A.eval (.tmp 13) = (M3.at' l k).val := hI.val hd 3 13 rfl rfl (by kernel_rfl)
                  refine at_op rfl rfl (call_op rfl Try.func87 (by kernel_rfl) (by kernel_rfl) ?_)
                  simp only [List.map_cons, List.map_nil, e0]
                  refine (l9MsgOk_spec _ _).mono ?_
                  rw [hok]
                  rintro e W1 ⟨rfl, hb⟩
                  exact ⟨_, rfl, _, rfl, rfl, hg.below hb⟩
                rcases ix with _ | ix
                · obtain rfl := (Option.some.inj hj).symm
                  have e0 : A.eval (.tmp 14) = .bool true := hI.val hd 4 14 rfl rfl (by kernel_rfl)
                  refine at_op rfl rfl (val_op (v := .bool false) ?_ ⟨_, rfl, rfl, hg⟩)
                  unfold execOp
                  simp only [List.getElem_toArray, List.getElem_cons_zero, List.getElem_cons_succ, e0]
                  simp [go_sem]
                rcases ix with _ | ix
                · obtain rfl := (Option.some.inj hj).symm
                  have e0 : A.eval (.tmp 15) = .bool false := hI.val hd 5 15 rfl rfl (by kernel_rfl)
                  exact at_op rfl rfl (move_op rfl ⟨_, rfl, e0, hg⟩)
                rcases ix with _ | ix
                · obtain rfl := (Option.some.inj hj).symm
                  have hgv : A.tmps.getD 16 undef = .bool false := hI.val hd 6 16 rfl rfl (by kernel_rfl)
                  have e0 : A.eval (.tmp 3) = .int .i64 (k : Int) := hI.old 3 (by kernel_rfl)
                  exact at_guard rfl rfl (j := 6) (k := 16) rfl (by omega) hgv (move_op rfl ⟨_, rfl, e0, hg⟩)
                rcases ix with _ | ix
                · obtain rfl := (Option.some.inj hj).symm
                  have hgv : A.tmps.getD 16 undef = .bool false := hI.val hd 6 16 rfl rfl (by kernel_rfl)
                  have e0 : A.eval (.tmp 17) = .int .i64 (k : Int) := hI.val hd 7 17 rfl rfl (by kernel_rfl)
                  exact at_guard rfl rfl (j := 6) (k := 16) rfl (by omega) hgv (bin_op (vy := .int .i64 0) rfl e0 rfl (fun w => by first | (simp [go_sem]; done) | (simp [go_sem]; omega)) ⟨_, rfl, rfl, hg⟩)
                rcases ix with _ | ix
                · obtain rfl := (Option.some.inj hj).symm
                  have hgv : A.tmps.getD 16 undef = .bool false := hI.val hd 6 16 rfl rfl (by kernel_rfl)
                  have e0 : A.eval (.tmp 18) = .bool true := hI.val hd 8 18 rfl rfl (by kernel_rfl)
                  exact at_guard rfl rfl (j := 6) (k := 16) rfl (by omega) hgv (move_op rfl ⟨_, rfl, e0, hg⟩)
                rcases ix with _ | ix
                · obtain rfl := (Option.some.inj hj).symm
                  have hgv : A.tmps.getD 19 undef = .bool true := hI.val hd 9 19 rfl rfl (by kernel_rfl)
                  have e0 : A.eval (.tmp 0) = .slice (some ⟨b, off, none⟩) l.length c := hI.old 0 (by kernel_rfl)
                  exact at_guard rfl rfl (j := 9) (k := 19) rfl (by omega) hgv (move_op rfl ⟨_, rfl, e0, hg⟩)
                rcases ix with _ | ix
                · obtain rfl := (Option.some.inj hj).symm
                  have hgv : A.tmps.getD 19 undef = .bool true := hI.val hd 9 19 rfl rfl (by kernel_rfl)
                  have e0 : A.eval (.tmp 3) = .int .i64 (k : Int) := hI.old 3 (by kernel_rfl)
                  exact at_guard rfl rfl (j := 9) (k := 19) rfl (by omega) hgv (move_op rfl ⟨_, rfl, e0, hg⟩)
                rcases ix with _ | ix
                · obtain rfl := (Option.some.inj hj).symm
                  have hgv : A.tmps.getD 19 undef = .bool true := hI.val hd 9 19 rfl rfl (by kernel_rfl)
                  have e0 : A.eval (.tmp 21) = .int .i64 (k : Int) := hI.val hd 11 21 rfl rfl (by kernel_rfl)
                  exact at_guard rfl rfl (j := 9) (k := 19) rfl (by omega) hgv (bin_op (vy := .int .i64 1) rfl e0 rfl (fun w => by rw [show ((k - 1 : Nat) : Int) = (k : Int) - 1 from by omega]; exact subN _ _ _ _ w (by omega) (by omega)) ⟨_, rfl, rfl, hg⟩)
                rcases ix with _ | ix
                · obtain rfl := (Option.some.inj hj).symm
                  have hgv : A.tmps.getD 19 undef = .bool true := hI.val hd 9 19 rfl rfl (by kernel_rfl)
                  have e0 : A.eval (.tmp 20) = .slice (some ⟨b, off, none⟩) l.length c := hI.val hd 10 20 rfl rfl (by kernel_rfl)
                  have e1 : A.eval (.tmp 22) = .int .i64 ((k - 1 : Nat) : Int) := hI.val hd 12 22 rfl rfl (by kernel_rfl)
                  exact at_guard rfl rfl (j := 9) (k := 19) rfl (by omega) hgv (ixF_op okM rfl e0 e1 (by omega) ⟨_, rfl, rfl, hg⟩)
                rcases ix with _ | ix
                · obtain rfl := (Option.some.inj hj).symm
                  have hgv : A.tmps.getD 19 undef = .bool true := hI.val hd 9 19 rfl rfl (by kernel_rfl)
                  have e0 : A.eval (.tmp 23) = .pointer (some ⟨b, off + (k - 1) * 3, none⟩) := hI.val hd 13 23 rfl rfl (by kernel_rfl)
                  exact at_guard rfl rfl (j := 9) (k := 19) rfl (by omega) hgv (elF_op okM rfl e0 (hg.sl.range okM (at_some (by omega))) ⟨_, rfl, rfl, hg⟩)
                rcases ix with _ | ix
                · obtain rfl := (Option.some.inj hj).symm
                  have hgv : A.tmps.getD 19 undef = .bool true := hI.val hd 9 19 rfl rfl (by kernel_rfl)
                  have e0 : A.eval (.tmp 0) = .slice (some ⟨b, off, none⟩) l.length c := hI.old 0 (by kernel_rfl)
                  exact at_guard rfl rfl (j := 9) (k := 19) rfl (by omega) hgv (move_op rfl ⟨_, rfl, e0, hg⟩)
                rcases ix with _ | ix
                · obtain rfl := (Option.some.inj hj).symm
                  have hgv : A.tmps.getD 19 undef = .bool true := hI.val hd 9 19 rfl rfl (by kernel_rfl)
                  have e0 : A.eval (.tmp 3) = .int .i64 (k : Int) := hI.old 3 (by kernel_rfl)
                  exact at_guard rfl rfl (j := 9) (k := 19) rfl (by omega) hgv (move_op rfl ⟨_, rfl, e0, hg⟩)
                rcases ix with _ | ix
                · obtain rfl := (Option.some.inj hj).symm
                  have hgv : A.tmps.getD 19 undef = .bool true := hI.val hd 9 19 rfl rfl (by kernel_rfl)
                  have e0 : A.eval (.tmp 25) = .slice (some ⟨b, off, none⟩) l.length c := hI.val hd 15 25 rfl rfl (by kernel_rfl)
                  have e1 : A.eval (.tmp 26) = .int .i64 (k : Int) := hI.val hd 16 26 rfl rfl (by kernel_rfl)
                  exact at_guard rfl rfl (j := 9) (k := 19) rfl (by omega) hgv (ixF_op okM rfl e0 e1 (by omega) ⟨_, rfl, rfl, hg⟩)
                rcases ix with _ | ix
                · obtain rfl := (Option.some.inj hj).symm
                  have hgv : A.tmps.getD 19 undef = .bool true := hI.val hd 9 19 rfl rfl (by kernel_rfl)
                  have e0 : A.eval (.tmp 27) = .pointer (some ⟨b, off + k * 3, none⟩) := hI.val hd 17 27 rfl rfl (by kernel_rfl)
                  exact at_guard rfl rfl (j := 9) (k := 19) rfl (by omega) hgv (elF_op okM rfl e0 (hg.sl.range okM (at_some (by omega))) ⟨_, rfl, rfl, hg⟩)
                rcases ix with _ | ix
                · obtain rfl := (Option.some.inj hj).symm
                  have hgv : A.tmps.getD 19 undef = .bool true := hI.val hd 9 19 rfl rfl (by kernel_rfl)
                  have e0 : A.eval (.tmp 24) = (M3.at' l (k - 1)).val := hI.val hd 14 24 rfl rfl (by kernel_rfl)
                  have e1 : A.eval (.tmp 28) = (M3.at' l k).val := hI.val hd 18 28 rfl rfl (by kernel_rfl)
                  refine at_guard rfl rfl (j := 9) (k := 19) rfl (by omega) hgv (call_op rfl Try.func88 (by kernel_rfl) (by kernel_rfl) ?_)
                  simp only [List.map_cons, List.map_nil, e0, e1]
                  refine (l9Later_spec _ _ _).mono ?_
                  rw [hlt]
                  rintro e W1 ⟨rfl, hb⟩
                  exact ⟨_, rfl, _, rfl, rfl, hg.below hb⟩
                rcases ix with _ | ix
                · obtain rfl := (Option.some.inj hj).symm
                  have hgv : A.tmps.getD 16 undef = .bool false := hI.val hd 6 16 rfl rfl (by kernel_rfl)
                  have e0 : A.eval (.tmp 19) = .bool true := hI.val hd 9 19 rfl rfl (by kernel_rfl)
                  have e1 : A.eval (.tmp 29) = .bool true := hI.val hd 19 29 rfl rfl (by kernel_rfl)
                  exact at_guard rfl rfl (j := 6) (k := 16) rfl (by omega) hgv (pick_op rfl e0 ⟨_, rfl, e1, hg⟩)
                rcases ix with _ | ix
                · obtain rfl := (Option.some.inj hj).symm
                  have e0 : A.eval (.tmp 16) = .bool false := hI.val hd 6 16 rfl rfl (by kernel_rfl)
                  have e1 : A.eval (.tmp 30) = .bool true := hI.val hd 20 30 rfl rfl (by kernel_rfl)
                  exact at_op rfl rfl (pick_op rfl e0 ⟨_, rfl, e1, hg⟩)
                omega
              case done =>
                intro A W hI
                have hg := hI.g
                have s31 : A.tmps.getD 31 undef = .bool true := hI.last 21 31 rfl
                have hA := hI.frame [10, 11, 12, 13, 14, 15, 16, 17, 18, 19, 20, 21, 22, 23, 24, 25, 26, 27, 28, 29, 30, 31] (by kernel_rfl)
                rw [hA]
                simp only [putAll, List.foldl_cons, List.foldl_nil, s31, Act.put, List.setIfInBounds_toArray, List.set_cons_zero, List.set_cons_succ]
                clear hA hI s31
                go_wp2
                go_ret
                exact ⟨ret_bool (by rw [HF.out]), hg.bel⟩
          · have HF : Hid (fitsTo l (k + 1) = true) := show _ = _ by rw [fitsTo_succ, hft]; unfold fits; rw [hok]; simp [hk0]
            go_wp2_with fail
            refine region_known (by kernel_rfl) (by kernel_rfl) 0 (by decide) (by kernel_rfl) (fun _ W => Gi w (.slice (some ⟨b, off, none⟩) l.length c) l W) [.slice (some ⟨b, off, none⟩) l.length c, .int .i64 (k : Int), .pointer (some ⟨b, off + k * 3, none⟩), (M3.at' l k).val, .bool true, .bool false, .bool false, .int .i64 (k : Int), .bool false, .bool false, undef, undef, undef, undef, undef, undef, undef, undef, undef, undef, .bool false, .bool false] hG.drew ?step ?done
            case step =>
              intro L ix o' A W hj hI hL hd
              have hin : ix < 22 := by
                by_cases hl : ix < 22
                · exact hl
                · simp [hl] at hj
              have hsz : A.tmps.size = 35 := hI.size
              have hg := hI.g
              rcases ix with _ | ix
              · obtain rfl := (Option.some.inj hj).symm
                have e0 : A.eval (.tmp 0) = .slice (some ⟨b, off, none⟩) l.length c := hI.old 0 (by kernel_rfl)
                exact at_op rfl rfl (move_op rfl ⟨_, rfl, e0, hg⟩)
              rcases ix with _ | ix
              · obtain rfl := (Option.some.inj hj).symm
                have e0 : A.eval (.tmp 3) = .int .i64 (k : Int) := hI.old 3 (by kernel_rfl)
                exact at_op rfl rfl (move_op rfl ⟨_, rfl, e0, hg⟩)
              rcases ix with _ | ix
              · obtain rfl := (Option.some.inj hj).symm
                have e0 : A.eval (.tmp 10) = .slice (some ⟨b, off, none⟩) l.length c := hI.val hd 0 10 rfl rfl (by kernel_rfl)
                have e1 : A.eval (.tmp 11) = .int .i64 (k : Int) := hI.val hd 1 11 rfl rfl (by kernel_rfl)
                exact at_op rfl rfl (ixF_op okM rfl e0 e1 (by omega) ⟨_, rfl, rfl, hg⟩)
              rcases ix with _ | ix
              · obtain rfl := (Option.some.inj hj).symm
                have e0 : A.eval (.tmp 12) = .pointer (some ⟨b, off + k * 3, none⟩) := hI.val hd 2 12 rfl rfl (by kernel_rfl)
                exact at_op rfl rfl (elF_op okM rfl e0 (hg.sl.range okM (at_some (by omega))) ⟨_, rfl, rfl, hg⟩)
              rcases ix with _ | ix
              · obtain rfl := (Option.some.inj hj).symm
                have e0 : A.eval (.tmp 13) = (M3.at' l k).val := hI.val hd 3 13 rfl rfl (by kernel_rfl)
                refine at_op rfl rfl (call_op rfl Try.func87 (by kernel_rfl) (by kernel_rfl) ?_)
                simp only [List.map_cons, List.map_nil, e0]
                refine (l9MsgOk_spec _ _).mono ?_
                rw [hok]
                rintro e W1 ⟨rfl, hb⟩
                exact ⟨_, rfl, _, rfl, rfl, hg.below hb⟩
              rcases ix with _ | ix
              · obtain rfl := (Option.some.inj hj).symm
                have e0 : A.eval (.tmp 14) = .bool true := hI.val hd 4 14 rfl rfl (by kernel_rfl)
                refine at_op rfl rfl (val_op (v := .bool false) ?_ ⟨_, rfl, rfl, hg⟩)
                unfold execOp
                simp only [List.getElem_toArray, List.getElem_cons_zero, List.getElem_cons_succ, e0]
                simp [go_sem]
              rcases ix with _ | ix
              · obtain rfl := (Option.some.inj hj).symm
                have e0 : A.eval (.tmp 15) = .bool false := hI.val hd 5 15 rfl rfl (by kernel_rfl)
                exact at_op rfl rfl (move_op rfl ⟨_, rfl, e0, hg⟩)
              rcases ix with _ | ix
              · obtain rfl := (Option.some.inj hj).symm
                have hgv : A.tmps.getD 16 undef = .bool false := hI.val hd 6 16 rfl rfl (by kernel_rfl)
                have e0 : A.eval (.tmp 3) = .int .i64 (k : Int) := hI.old 3 (by kernel_rfl)
                exact at_guard rfl rfl (j := 6) (k := 16) rfl (by omega) hgv (move_op rfl ⟨_, rfl, e0, hg⟩)
              rcases ix with _ | ix
              · obtain rfl := (Option.some.inj hj).symm
                have hgv : A.tmps.getD 16 undef = .bool false := hI.val hd 6 16 rfl rfl (by kernel_rfl)
                have e0 : A.eval (.tmp 17) = .int .i64 (k : Int) := hI.val hd 7 17 rfl rfl (by kernel_rfl)
                exact at_guard rfl rfl (j := 6) (k := 16) rfl (by omega) hgv (bin_op (vy := .int .i64 0) rfl e0 rfl (fun w => by first | (simp [go_sem]; done) | (simp [go_sem]; omega)) ⟨_, rfl, rfl, hg⟩)
              rcases ix with _ | ix
              · obtain rfl := (Option.some.inj hj).symm
                have hgv : A.tmps.getD 16 undef = .bool false := hI.val hd 6 16 rfl rfl (by kernel_rfl)
                have e0 : A.eval (.tmp 18) = .bool false := hI.val hd 8 18 rfl rfl (by kernel_rfl)
                exact at_guard rfl rfl (j := 6) (k := 16) rfl (by omega) hgv (move_op rfl ⟨_, rfl, e0, hg⟩)
              rcases ix with _ | ix
              · obtain rfl := (Option.some.inj hj).symm
                have hgv : A.tmps.getD 19 undef = .bool false := hI.val hd 9 19 rfl rfl (by kernel_rfl)
                exact at_skip rfl rfl (j := 9) (k := 19) rfl (by rw [hgv]; simp [undef]) ⟨_, rfl, rfl, hg⟩
              rcases ix with _ | ix
              · obtain rfl := (Option.some.inj hj).symm
                have hgv : A.tmps.getD 19 undef = .bool false := hI.val hd 9 19 rfl rfl (by kernel_rfl)
                exact at_skip rfl rfl (j := 9) (k := 19) rfl (by rw [hgv]; simp [undef]) ⟨_, rfl, rfl, hg⟩
              rcases ix with _ | ix
              · obtain rfl := (Option.some.inj hj).symm
                have hgv : A.tmps.getD 19 undef = .bool false := hI.val hd 9 19 rfl rfl (by kernel_rfl)
                exact at_skip rfl rfl (j := 9) (k := 19) rfl (by rw [hgv]; simp [undef]) ⟨_, rfl, rfl, hg⟩
              rcases ix with _ | ix
              · obtain rfl := (Option.some.inj hj).symm
                have hgv : A.tmps.getD 19 undef = .bool false := hI.val hd 9 19 rfl rfl (by kernel_rfl)
                exact at_skip rfl rfl (j := 9) (k := 19) rfl (by rw [hgv]; simp [undef]) ⟨_, rfl, rfl, hg⟩
              rcases ix with _ | ix
              · obtain rfl := (Option.some.inj hj).symm
                have hgv : A.tmps.getD 19 undef = .bool false := hI.val hd 9 19 rfl rfl (by kernel_rfl)
                exact at_skip rfl rfl (j := 9) (k := 19) rfl (by rw [hgv]; simp [undef]) ⟨_, rfl, rfl, hg⟩
              rcases ix with _ | ix
              · obtain rfl := (Option.some.inj hj).symm
                have hgv : A.tmps.getD 19 undef = .bool false := hI.val hd 9 19 rfl rfl (by kernel_rfl)
                exact at_skip rfl rfl (j := 9) (k := 19) rfl (by rw [hgv]; simp [undef]) ⟨_, rfl, rfl, hg⟩
              rcases ix with _ | ix
              · obtain rfl := (Option.some.inj hj).symm
                have hgv : A.tmps.getD 19 undef = .bool false := hI.val hd 9 19 rfl rfl (by kernel_rfl)
                exact at_skip rfl rfl (j := 9) (k := 19) rfl (by rw [hgv]; simp [undef]) ⟨_, rfl, rfl, hg⟩
              rcases ix with _ | ix
              · obtain rfl := (Option.some.inj hj).symm
                have hgv : A.tmps.getD 19 undef = .bool false := hI.val hd 9 19 rfl rfl (by kernel_rfl)
                exact at_skip rfl rfl (j := 9) (k := 19) rfl (by rw [hgv]; simp [undef]) ⟨_, rfl, rfl, hg⟩
              rcases ix with _ | ix
              · obtain rfl := (Option.some.inj hj).symm
                have hgv : A.tmps.getD 19 undef = .bool false := hI.val hd 9 19 rfl rfl (by kernel_rfl)
                exact at_skip rfl rfl (j := 9) (k := 19) rfl (by rw [hgv]; simp [undef]) ⟨_, rfl, rfl, hg⟩
              rcases ix with _ | ix
              · obtain rfl := (Option.some.inj hj).symm
                have hgv : A.tmps.getD 19 undef = .bool false := hI.val hd 9 19 rfl rfl (by kernel_rfl)
                exact at_skip rfl rfl (j := 9) (k := 19) rfl (by rw [hgv]; simp [undef]) ⟨_, rfl, rfl, hg⟩
              rcases ix with _ | ix
              · obtain rfl := (Option.some.inj hj).symm
                have hgv : A.tmps.getD 16 undef = .bool false := hI.val hd 6 16 rfl rfl (by kernel_rfl)
                have e0 : A.eval (.tmp 19) = .bool false := hI.val hd 9 19 rfl rfl (by kernel_rfl)
                have e1 : A.eval (.tmp 29) = undef := hI.val hd 19 29 rfl rfl (by kernel_rfl)
                exact at_guard rfl rfl (j := 6) (k := 16) rfl (by omega) hgv (pick_op rfl e0 ⟨_, rfl, rfl, hg⟩)
              rcases ix with _ | ix
              · obtain rfl := (Option.some.inj hj).symm
                have e0 : A.eval (.tmp 16) = .bool false := hI.val hd 6 16 rfl rfl (by kernel_rfl)
                have e1 : A.eval (.tmp 30) = .bool false := hI.val hd 20 30 rfl rfl (by kernel_rfl)
                exact at_op rfl rfl (pick_op rfl e0 ⟨_, rfl, e1, hg⟩)
              omega
            case done =>
              intro A W hI
              have hg := hI.g
              have s31 : A.tmps.getD 31 undef = .bool false := hI.last 21 31 rfl
              have hA := hI.frame [10, 11, 12, 13, 14, 15, 16, 17, 18, 19, 20, 21, 22, 23, 24, 25, 26, 27, 28, 29, 30, 31] (by kernel_rfl)
              rw [hA]
              simp only [putAll, List.foldl_cons, List.foldl_nil, s31, Act.put, List.setIfInBounds_toArray, List.set_cons_zero, List.set_cons_succ]
              clear hA hI s31
              go_wp2
              go_roundw
              case rel => exact ⟨k + 1, by omega, by go_num, HF.out, hg⟩
              case measure => simp [intOf]; omega
      · have hk' : k = l.length := by omega
        have HF : Hid (inboxOk l = decide (l.length ≤ 200)) := show _ = _ by unfold inboxOk; rw [← hk', hft]; rfl
        have hbel := hG.bel
        go_wp2
        go_ret
        exact ⟨ret_bool (by rw [HF.out]; simp <;> omega), hbel⟩
  · obtain ⟨a, cap, rfl, h1⟩ := h
    have hl : l = [] := List.eq_nil_of_length_eq_zero (by omega)
    subst hl
    go_enter Try.func55, Try.ntmps55
    go_wp2_with fail
    go_loopw [3] (fun i wr => i = .int .i64 0 ∧ wr = w) (fun i _ => 0)
    case atStart => exact ⟨rfl, rfl⟩
    case round =>
      obtain ⟨rfl, rfl⟩ := hrel
      go_wp2
      go_ret
      exact ⟨rfl, Below.refl _ _⟩
/-- The same, and the message that comes in. -/
structure Gw (w : World) (v : Value) (l : List M3) (m : M3) (W : World) : Prop where
  sl : SlF fM W v l
  row : M3Row W w.heap.size m
  bel : Below w.heap.size w W
theorem Gw.below {w W W' : World} {v : Value} {l : List M3} {m : M3} (h : Gw w v l m W) (hb : Below W.heap.size W W') : Gw w v l m W' := ⟨h.sl.below hb, h.row.below hb, below_more h.bel hb⟩
theorem Gw.drew {w W : World} {v : Value} {l : List M3} {m : M3} (h : Gw w v l m W) : Gw w v l m W.drew := h.below (drew_below (n := 1) rfl)
theorem l9Copy_spec (v : Value) (l : List M3) (w : World) (h : SlF fM w v l) (hl : l.length ≤ 10000000) :
    Calls Try.prog 39 #[v] w fun e w' => ∃ v', e = .returned v' ∧ OwnF fM w.heap.size w' v' l ∧ Below w.heap.size w w' := by
  have ho0 := own_litF fM okM w.heap.size w #[] [] rfl (by decide) (Nat.le_refl _)
  have hs0 := h.below ((Below.refl w.heap.size w).alloc (Nat.le_refl _) (.cells #[] 78))
  go_enter Try.func39, Try.ntmps39
  go_wp2_with (at_builtin; refine appF okM rfl (.tmp 3) (.tmp 4) rfl w.heap.size [] l ho0 hs0 (by simp; omega) (by simp) ?_; intro v1 w1 ho1 hg1)
  go_ret
  exact ⟨_, rfl, by simpa using ho1, ((Below.refl w.heap.size w).alloc (Nat.le_refl _) _).grown hg1 (by simp) (fun k hk => by have hk' : some w.heap.size = some k := hk; cases hk'; exact Nat.le_refl _)⟩
/-- What is told of the operations of 'append(copy(l[:k]), m)'. -/
def Tw (base : Nat) (v0 v2 : Value) (k : Int) (l : List M3) (m : M3) (j : Nat) (v : Value) (W : World) : Prop :=
  if j = 0 then v = v0
  else if j = 1 then v = .int .i64 k
  else if j = 2 then v = v2
  else if j = 3 then OwnF fM base W v l
  else if j = 4 then v = m.val
  else if j = 5 then SlF fM W v [m]
  else True
theorem Tw.below {base : Nat} {v0 v2 : Value} {k : Int} {l : List M3} {m : M3} {j : Nat} {v : Value} {W W' : World} (h : Tw base v0 v2 k l m j v W) (hb : Below W.heap.size W W') : Tw base v0 v2 k l m j v W' := by
  rcases j with _ | _ | _ | _ | _ | _ | j
  · exact h
  · exact h
  · exact h
  · exact OwnF.below (show OwnF fM base W v l from h) hb
  · exact h
  · exact SlF.below (show SlF fM W v [m] from h) hb
  · simp [Tw]
theorem own_undef {α : Type} {f : Fl α} {base : Nat} {W : World} {l : List α} : ¬ OwnF f base W undef l := fun h => by
  rcases h.2 with ⟨e, _⟩ | ⟨_, _, _, e, _⟩
  · cases e
  · cases e
theorem fill1 (e : M3) : Instr.fill (fun i => some (i * fM.n, fM.n)) ((Array.range (1 * fM.n)).map ((Value.agg (fM.F fM.z).toArray).cells[· % (Value.agg (fM.F fM.z).toArray).cells.size]!)) [(0, .agg (fM.F e).toArray)] = some (fM.F e).toArray := by kernel_rfl
end Go.Proofs.Ytjjafaikaghlgaa.Mem
