/-
  What FnExactStepOf leans on: part 2.
-/
import Derived.Deep.QuietTactic
import Derived.BigQuiet
import Derived.Test.YtghmkacamabndaaGreatDoorSteP1
set_option linter.unusedVariables false
set_option linter.unusedSimpArgs false
set_option maxRecDepth 20000
namespace Go.Proofs.YtghmkacamabndaaGreatDoor.Mem
open Go.ChangeShapes Go.WideShapes Go.RowKit Base Num Slc Slf Rw Tmr Reg

theorem fitsTo_succ (l : List M3) (k : Nat) : fitsTo l (k + 1) = (fitsTo l k && fits l k) := by
  simp [fitsTo, List.range_succ, List.all_append]
theorem fitsTo_no {l : List M3} {k n : Nat} (hk : k < n) (h : fits l k = false) : fitsTo l n = false := by
  simp only [fitsTo]
  rw [List.all_eq_false]
  exact ⟨k, List.mem_range.2 hk, by simp [h]⟩
structure Gi (w : World) (v : Value) (l : List M3) (W : World) : Prop where
  sl : SlF fM W v l
  bel : Below w.heap.size w W
theorem Gi.below {w W W' : World} {v : Value} {l : List M3} (h : Gi w v l W) (hb : Below W.heap.size W W') : Gi w v l W' := ⟨h.sl.below hb, below_more h.bel hb⟩
theorem Gi.drew {w W : World} {v : Value} {l : List M3} (h : Gi w v l W) : Gi w v l W.drew := h.below (drew_below (n := 1) rfl)
set_option maxRecDepth 20000 in
set_option maxHeartbeats 1000000 in
theorem inboxOk_spec (v : Value) (l : List M3) (w : World) (h : SlF fM w v l) :
    Calls Tryz.prog 18 #[v] w fun e w' => e = .returned (.bool (inboxOk l)) ∧ Below w.heap.size w w' := by
  by_cases h0 : 0 < l.length
  · obtain ⟨b, off, c, rfl, hbl, hlc, hcm⟩ := h.shape h0
    unfold maxLen at hcm
    have hG : Gi w (.slice (some ⟨b, off, none⟩) l.length c) l w := ⟨h, Below.refl _ _⟩
    clear h hbl
    go_enter Tryz.func18, Tryz.ntmps18
    go_wp2_with fail
    go_loopw [3] (fun i wr => ∃ k : Nat, k ≤ l.length ∧ i = .int .i64 k ∧ fitsTo l k = true ∧ Gi w (.slice (some ⟨b, off, none⟩) l.length c) l wr) (fun i _ => l.length - (intOf i).toNat)
    case atStart => exact ⟨0, Nat.zero_le _, rfl, rfl, hG⟩
    case round =>
      clear hG
      obtain ⟨k, hk, rfl, hft, hG⟩ := hrel
      by_cases hlt' : k < l.length
      · cases hok : (M3.at' l k).ok
        · have HF : Hid (inboxOk l = false) := show _ = _ by unfold inboxOk; rw [fitsTo_no hlt' (by unfold fits; rw [hok]; rfl)]; rfl
          go_wp2_with fail
          refine region_known (by kernel_rfl) (by kernel_rfl) 0 (by decide) (by kernel_rfl) (fun _ W => Gi w (.slice (some ⟨b, off, none⟩) l.length c) l W) [.slice (some ⟨b, off, none⟩) l.length c, .int .i64 (k : Int), .pointer (some ⟨b, off + k * 3, none⟩), (M3.at' l k).val, .bool false, .bool true, .bool true, undef, undef, undef, undef, undef, undef, undef, undef, undef, undef, undef, undef, undef, undef, .bool true] hG.drew ?step ?done
          case step =>
            intro L ix o' A W hj hI hL hd
            have hin : ix < 22 := by
              by_cases hl : ix < 22
              · exact hl
              · simp [hl] at hj
            have hsz : A.tmps.size = 35 := hI.size
            have hg := hI.g
            rcases ix with _ | ix
            · cases hj
              have e0 : A.eval (.tmp 0) = .slice (some ⟨b, off, none⟩) l.length c := hI.old 0 (by kernel_rfl)
              exact at_op rfl rfl (move_op rfl ⟨_, rfl, e0, hg⟩)
            rcases ix with _ | ix
            · cases hj
              have e0 : A.eval (.tmp 3) = .int .i64 (k : Int) := hI.old 3 (by kernel_rfl)
              exact at_op rfl rfl (move_op rfl ⟨_, rfl, e0, hg⟩)
            rcases ix with _ | ix
            · cases hj
              have e0 : A.eval (.tmp 10) = .slice (some ⟨b, off, none⟩) l.length c := hI.val hd 0 10 rfl rfl (by kernel_rfl)
              have e1 : A.eval (.tmp 11) = .int .i64 (k : Int) := hI.val hd 1 11 rfl rfl (by kernel_rfl)
              exact at_op rfl rfl (ixF_op okM rfl e0 e1 (by omega) ⟨_, rfl, rfl, hg⟩)
            rcases ix with _ | ix
            · cases hj
              have e0 : A.eval (.tmp 12) = .pointer (some ⟨b, off + k * 3, none⟩) := hI.val hd 2 12 rfl rfl (by kernel_rfl)
              exact at_op rfl rfl (elF_op okM rfl e0 (hg.sl.range okM (at_some (by omega))) ⟨_, rfl, rfl, hg⟩)
            rcases ix with _ | ix
            · cases hj
              have e0 : A.eval (.tmp 13) = (M3.at' l k).val := hI.val hd 3 13 rfl rfl (by kernel_rfl)
              refine at_op rfl rfl (call_op rfl Tryz.func67 (by kernel_rfl) (by kernel_rfl) ?_)
              simp only [List.map_cons, List.map_nil, e0]
              refine (l9MsgOk_spec _ _).mono ?_
              rw [hok]
              rintro e W1 ⟨rfl, hb⟩
              exact ⟨_, rfl, _, rfl, rfl, hg.below hb⟩
            rcases ix with _ | ix
            · cases hj
              have e0 : A.eval (.tmp 14) = .bool false := hI.val hd 4 14 rfl rfl (by kernel_rfl)
              refine at_op rfl rfl (val_op (v := .bool true) ?_ ⟨_, rfl, rfl, hg⟩)
              unfold execOp
              simp only [List.getElem_toArray, List.getElem_cons_zero, List.getElem_cons_succ, e0]
              simp [go_sem]
            rcases ix with _ | ix
            · cases hj
              have e0 : A.eval (.tmp 15) = .bool true := hI.val hd 5 15 rfl rfl (by kernel_rfl)
              exact at_op rfl rfl (move_op rfl ⟨_, rfl, e0, hg⟩)
            rcases ix with _ | ix
            · cases hj
              have hgv : A.tmps.getD 16 undef = .bool true := hI.val hd 6 16 rfl rfl (by kernel_rfl)
              exact at_skip rfl rfl (j := 6) (k := 16) rfl (by rw [hgv]; simp [undef]) ⟨_, rfl, rfl, hg⟩
            rcases ix with _ | ix
            · cases hj
              have hgv : A.tmps.getD 16 undef = .bool true := hI.val hd 6 16 rfl rfl (by kernel_rfl)
              exact at_skip rfl rfl (j := 6) (k := 16) rfl (by rw [hgv]; simp [undef]) ⟨_, rfl, rfl, hg⟩
            rcases ix with _ | ix
            · cases hj
              have hgv : A.tmps.getD 16 undef = .bool true := hI.val hd 6 16 rfl rfl (by kernel_rfl)
              exact at_skip rfl rfl (j := 6) (k := 16) rfl (by rw [hgv]; simp [undef]) ⟨_, rfl, rfl, hg⟩
            rcases ix with _ | ix
            · cases hj
              have hgv : A.tmps.getD 19 undef = undef := hI.val hd 9 19 rfl rfl (by kernel_rfl)
              exact at_skip rfl rfl (j := 9) (k := 19) rfl (by rw [hgv]; simp [undef]) ⟨_, rfl, rfl, hg⟩
            rcases ix with _ | ix
            · cases hj
              have hgv : A.tmps.getD 19 undef = undef := hI.val hd 9 19 rfl rfl (by kernel_rfl)
              exact at_skip rfl rfl (j := 9) (k := 19) rfl (by rw [hgv]; simp [undef]) ⟨_, rfl, rfl, hg⟩
            rcases ix with _ | ix
            · cases hj
              have hgv : A.tmps.getD 19 undef = undef := hI.val hd 9 19 rfl rfl (by kernel_rfl)
              exact at_skip rfl rfl (j := 9) (k := 19) rfl (by rw [hgv]; simp [undef]) ⟨_, rfl, rfl, hg⟩
            rcases ix with _ | ix
            · cases hj
              have hgv : A.tmps.getD 19 undef = undef := hI.val hd 9 19 rfl rfl (by kernel_rfl)
              exact at_skip rfl rfl (j := 9) (k := 19) rfl (by rw [hgv]; simp [undef]) ⟨_, rfl, rfl, hg⟩
            rcases ix with _ | ix
            · cases hj
              have hgv : A.tmps.getD 19 undef = undef := hI.val hd 9 19 rfl rfl (by kernel_rfl)
              exact at_skip rfl rfl (j := 9) (k := 19) rfl (by rw [hgv]; simp [undef]) ⟨_, rfl, rfl, hg⟩
            rcases ix with _ | ix
            · cases hj
              have hgv : A.tmps.getD 19 undef = undef := hI.val hd 9 19 rfl rfl (by kernel_rfl)
              exact at_skip rfl rfl (j := 9) (k := 19) rfl (by rw [hgv]; simp [undef]) ⟨_, rfl, rfl, hg⟩
            rcases ix with _ | ix
            · cases hj
              have hgv : A.tmps.getD 19 undef = undef := hI.val hd 9 19 rfl rfl (by kernel_rfl)
              exact at_skip rfl rfl (j := 9) (k := 19) rfl (by rw [hgv]; simp [undef]) ⟨_, rfl, rfl, hg⟩
            rcases ix with _ | ix
            · cases hj
              have hgv : A.tmps.getD 19 undef = undef := hI.val hd 9 19 rfl rfl (by kernel_rfl)
              exact at_skip rfl rfl (j := 9) (k := 19) rfl (by rw [hgv]; simp [undef]) ⟨_, rfl, rfl, hg⟩
            rcases ix with _ | ix
            · cases hj
              have hgv : A.tmps.getD 19 undef = undef := hI.val hd 9 19 rfl rfl (by kernel_rfl)
              exact at_skip rfl rfl (j := 9) (k := 19) rfl (by rw [hgv]; simp [undef]) ⟨_, rfl, rfl, hg⟩
            rcases ix with _ | ix
            · cases hj
              have hgv : A.tmps.getD 19 undef = undef := hI.val hd 9 19 rfl rfl (by kernel_rfl)
              exact at_skip rfl rfl (j := 9) (k := 19) rfl (by rw [hgv]; simp [undef]) ⟨_, rfl, rfl, hg⟩
            rcases ix with _ | ix
            · cases hj
              have hgv : A.tmps.getD 16 undef = .bool true := hI.val hd 6 16 rfl rfl (by kernel_rfl)
              exact at_skip rfl rfl (j := 6) (k := 16) rfl (by rw [hgv]; simp [undef]) ⟨_, rfl, rfl, hg⟩
            rcases ix with _ | ix
            · cases hj
              have e0 : A.eval (.tmp 16) = .bool true := hI.val hd 6 16 rfl rfl (by kernel_rfl)
              have e1 : A.eval (.tmp 30) = undef := hI.val hd 20 30 rfl rfl (by kernel_rfl)
              exact at_op rfl rfl (pick_op rfl e0 ⟨_, rfl, rfl, hg⟩)
            omega
          case done =>
            intro A W hI
            have hg := hI.g
            have s31 : A.tmps.getD 31 undef = .bool true := hI.last 21 31 rfl
            have hA := hI.frame [10, 11, 12, 13, 14, 15, 16, 17, 18, 19, 20, 21, 22, 23, 24, 25, 26, 27, 28, 29, 30, 31] (by kernel_rfl)
            rw [hA]
            simp only [putAll, List.foldl_cons, List.foldl_nil, s31, Act.put, List.setIfInBounds_toArray, List.set_cons_zero, List.set_cons_succ]
            clear hA hI s31
            go_wp2
            go_ret
            exact ⟨ret_bool (by rw [HF.out]), hg.bel⟩
        · by_cases hk0 : 0 < k
          · cases hlt : later (M3.at' l (k - 1)) (M3.at' l k)
            · have HF : Hid (fitsTo l (k + 1) = true) := show _ = _ by rw [fitsTo_succ, hft]; unfold fits; rw [hok, hlt]; simp
              go_wp2_with fail
              refine region_known (by kernel_rfl) (by kernel_rfl) 0 (by decide) (by kernel_rfl) (fun _ W => Gi w (.slice (some ⟨b, off, none⟩) l.length c) l W) [.slice (some ⟨b, off, none⟩) l.length c, .int .i64 (k : Int), .pointer (some ⟨b, off + k * 3, none⟩), (M3.at' l k).val, .bool true, .bool false, .bool false, .int .i64 (k : Int), .bool true, .bool true, .slice (some ⟨b, off, none⟩) l.length c, .int .i64 (k : Int), .int .i64 ((k - 1 : Nat) : Int), .pointer (some ⟨b, off + (k - 1) * 3, none⟩), (M3.at' l (k - 1)).val, .slice (some ⟨b, off, none⟩) l.length c, .int .i64 (k : Int), .pointer (some ⟨b, off + k * 3, none⟩), (M3.at' l k).val, .bool false, .bool false, .bool false] hG.drew ?step ?done
              case step =>
                intro L ix o' A W hj hI hL hd
                have hin : ix < 22 := by
                  by_cases hl : ix < 22
                  · exact hl
                  · simp [hl] at hj
                have hsz : A.tmps.size = 35 := hI.size
                have hg := hI.g
                rcases ix with _ | ix
                · cases hj
                  have e0 : A.eval (.tmp 0) = .slice (some ⟨b, off, none⟩) l.length c := hI.old 0 (by kernel_rfl)
                  exact at_op rfl rfl (move_op rfl ⟨_, rfl, e0, hg⟩)
                rcases ix with _ | ix
                · cases hj
                  have e0 : A.eval (.tmp 3) = .int .i64 (k : Int) := hI.old 3 (by kernel_rfl)
                  exact at_op rfl rfl (move_op rfl ⟨_, rfl, e0, hg⟩)
                rcases ix with _ | ix
                · cases hj
                  have e0 : A.eval (.tmp 10) = .slice (some ⟨b, off, none⟩) l.length c := hI.val hd 0 10 rfl rfl (by kernel_rfl)
                  have e1 : A.eval (.tmp 11) = .int .i64 (k : Int) := hI.val hd 1 11 rfl rfl (by kernel_rfl)
                  exact at_op rfl rfl (ixF_op okM rfl e0 e1 (by omega) ⟨_, rfl, rfl, hg⟩)
                rcases ix with _ | ix
                · cases hj
                  have e0 : A.eval (.tmp 12) = .pointer (some ⟨b, off + k * 3, none⟩) := hI.val hd 2 12 rfl rfl (by kernel_rfl)
                  exact at_op rfl rfl (elF_op okM rfl e0 (hg.sl.range okM (at_some (by omega))) ⟨_, rfl, rfl, hg⟩)
                rcases ix with _ | ix
                · cases hj
                  have e0 : A.eval (.tmp 13) = (M3.at' l k).val := hI.val hd 3 13 rfl rfl (by kernel_rfl)
                  refine at_op rfl rfl (call_op rfl Tryz.func67 (by kernel_rfl) (by kernel_rfl) ?_)
                  simp only [List.map_cons, List.map_nil, e0]
                  refine (l9MsgOk_spec _ _).mono ?_
                  rw [hok]
                  rintro e W1 ⟨rfl, hb⟩
                  exact ⟨_, rfl, _, rfl, rfl, hg.below hb⟩
                rcases ix with _ | ix
                · cases hj
                  have e0 : A.eval (.tmp 14) = .bool true := hI.val hd 4 14 rfl rfl (by kernel_rfl)
                  refine at_op rfl rfl (val_op (v := .bool false) ?_ ⟨_, rfl, rfl, hg⟩)
                  unfold execOp
                  simp only [List.getElem_toArray, List.getElem_cons_zero, List.getElem_cons_succ, e0]
                  simp [go_sem]
                rcases ix with _ | ix
                · cases hj
                  have e0 : A.eval (.tmp 15) = .bool false := hI.val hd 5 15 rfl rfl (by kernel_rfl)
                  exact at_op rfl rfl (move_op rfl ⟨_, rfl, e0, hg⟩)
                rcases ix with _ | ix
                · cases hj
                  have hgv : A.tmps.getD 16 undef = .bool false := hI.val hd 6 16 rfl rfl (by kernel_rfl)
                  have e0 : A.eval (.tmp 3) = .int .i64 (k : Int) := hI.old 3 (by kernel_rfl)
                  exact at_guard rfl rfl (j := 6) (k := 16) rfl (by omega) hgv (move_op rfl ⟨_, rfl, e0, hg⟩)
                rcases ix with _ | ix
                · cases hj
                  have hgv : A.tmps.getD 16 undef = .bool false := hI.val hd 6 16 rfl rfl (by kernel_rfl)
                  have e0 : A.eval (.tmp 17) = .int .i64 (k : Int) := hI.val hd 7 17 rfl rfl (by kernel_rfl)
                  exact at_guard rfl rfl (j := 6) (k := 16) rfl (by omega) hgv (bin_op (vy := .int .i64 0) rfl e0 rfl (fun w => by first | (simp [go_sem]; done) | (simp [go_sem]; omega)) ⟨_, rfl, rfl, hg⟩)
                rcases ix with _ | ix
                · cases hj
                  have hgv : A.tmps.getD 16 undef = .bool false := hI.val hd 6 16 rfl rfl (by kernel_rfl)
                  have e0 : A.eval (.tmp 18) = .bool true := hI.val hd 8 18 rfl rfl (by kernel_rfl)
                  exact at_guard rfl rfl (j := 6) (k := 16) rfl (by omega) hgv (move_op rfl ⟨_, rfl, e0, hg⟩)
                rcases ix with _ | ix
                · cases hj
                  have hgv : A.tmps.getD 19 undef = .bool true := hI.val hd 9 19 rfl rfl (by kernel_rfl)
                  have e0 : A.eval (.tmp 0) = .slice (some ⟨b, off, none⟩) l.length c := hI.old 0 (by kernel_rfl)
                  exact at_guard rfl rfl (j := 9) (k := 19) rfl (by omega) hgv (move_op rfl ⟨_, rfl, e0, hg⟩)
                rcases ix with _ | ix
                · cases hj
                  have hgv : A.tmps.getD 19 undef = .bool true := hI.val hd 9 19 rfl rfl (by kernel_rfl)
                  have e0 : A.eval (.tmp 3) = .int .i64 (k : Int) := hI.old 3 (by kernel_rfl)
                  exact at_guard rfl rfl (j := 9) (k := 19) rfl (by omega) hgv (move_op rfl ⟨_, rfl, e0, hg⟩)
                rcases ix with _ | ix
                · cases hj
                  have hgv : A.tmps.getD 19 undef = .bool true := hI.val hd 9 19 rfl rfl (by kernel_rfl)
                  have e0 : A.eval (.tmp 21) = .int .i64 (k : Int) := hI.val hd 11 21 rfl rfl (by kernel_rfl)
                  exact at_guard rfl rfl (j := 9) (k := 19) rfl (by omega) hgv (bin_op (vy := .int .i64 1) rfl e0 rfl (fun w => by rw [show ((k - 1 : Nat) : Int) = (k : Int) - 1 from by omega]; exact subN _ _ _ _ w (by omega) (by omega)) ⟨_, rfl, rfl, hg⟩)
                rcases ix with _ | ix
                · cases hj
                  have hgv : A.tmps.getD 19 undef = .bool true := hI.val hd 9 19 rfl rfl (by kernel_rfl)
                  have e0 : A.eval (.tmp 20) = .slice (some ⟨b, off, none⟩) l.length c := hI.val hd 10 20 rfl rfl (by kernel_rfl)
                  have e1 : A.eval (.tmp 22) = .int .i64 ((k - 1 : Nat) : Int) := hI.val hd 12 22 rfl rfl (by kernel_rfl)
                  exact at_guard rfl rfl (j := 9) (k := 19) rfl (by omega) hgv (ixF_op okM rfl e0 e1 (by omega) ⟨_, rfl, rfl, hg⟩)
                rcases ix with _ | ix
                · cases hj
                  have hgv : A.tmps.getD 19 undef = .bool true := hI.val hd 9 19 rfl rfl (by kernel_rfl)
                  have e0 : A.eval (.tmp 23) = .pointer (some ⟨b, off + (k - 1) * 3, none⟩) := hI.val hd 13 23 rfl rfl (by kernel_rfl)
                  exact at_guard rfl rfl (j := 9) (k := 19) rfl (by omega) hgv (elF_op okM rfl e0 (hg.sl.range okM (at_some (by omega))) ⟨_, rfl, rfl, hg⟩)
                rcases ix with _ | ix
                · cases hj
                  have hgv : A.tmps.getD 19 undef = .bool true := hI.val hd 9 19 rfl rfl (by kernel_rfl)
                  have e0 : A.eval (.tmp 0) = .slice (some ⟨b, off, none⟩) l.length c := hI.old 0 (by kernel_rfl)
                  exact at_guard rfl rfl (j := 9) (k := 19) rfl (by omega) hgv (move_op rfl ⟨_, rfl, e0, hg⟩)
                rcases ix with _ | ix
                · cases hj
                  have hgv : A.tmps.getD 19 undef = .bool true := hI.val hd 9 19 rfl rfl (by kernel_rfl)
                  have e0 : A.eval (.tmp 3) = .int .i64 (k : Int) := hI.old 3 (by kernel_rfl)
                  exact at_guard rfl rfl (j := 9) (k := 19) rfl (by omega) hgv (move_op rfl ⟨_, rfl, e0, hg⟩)
                rcases ix with _ | ix
                · cases hj
                  have hgv : A.tmps.getD 19 undef = .bool true := hI.val hd 9 19 rfl rfl (by kernel_rfl)
                  have e0 : A.eval (.tmp 25) = .slice (some ⟨b, off, none⟩) l.length c := hI.val hd 15 25 rfl rfl (by kernel_rfl)
                  have e1 : A.eval (.tmp 26) = .int .i64 (k : Int) := hI.val hd 16 26 rfl rfl (by kernel_rfl)
                  exact at_guard rfl rfl (j := 9) (k := 19) rfl (by omega) hgv (ixF_op okM rfl e0 e1 (by omega) ⟨_, rfl, rfl, hg⟩)
                rcases ix with _ | ix
                · cases hj
                  have hgv : A.tmps.getD 19 undef = .bool true := hI.val hd 9 19 rfl rfl (by kernel_rfl)
                  have e0 : A.eval (.tmp 27) = .pointer (some ⟨b, off + k * 3, none⟩) := hI.val hd 17 27 rfl rfl (by kernel_rfl)
                  exact at_guard rfl rfl (j := 9) (k := 19) rfl (by omega) hgv (elF_op okM rfl e0 (hg.sl.range okM (at_some (by omega))) ⟨_, rfl, rfl, hg⟩)
                rcases ix with _ | ix
                · cases hj
                  have hgv : A.tmps.getD 19 undef = .bool true := hI.val hd 9 19 rfl rfl (by kernel_rfl)
                  have e0 : A.eval (.tmp 24) = (M3.at' l (k - 1)).val := hI.val hd 14 24 rfl rfl (by kernel_rfl)
                  have e1 : A.eval (.tmp 28) = (M3.at' l k).val := hI.val hd 18 28 rfl rfl (by kernel_rfl)
                  refine at_guard rfl rfl (j := 9) (k := 19) rfl (by omega) hgv (call_op rfl Tryz.func72 (by kernel_rfl) (by kernel_rfl) ?_)
                  simp only [List.map_cons, List.map_nil, e0, e1]
                  refine (l9Later_spec _ _ _).mono ?_
                  rw [hlt]
                  rintro e W1 ⟨rfl, hb⟩
                  exact ⟨_, rfl, _, rfl, rfl, hg.below hb⟩
                rcases ix with _ | ix
                · cases hj
                  have hgv : A.tmps.getD 16 undef = .bool false := hI.val hd 6 16 rfl rfl (by kernel_rfl)
                  have e0 : A.eval (.tmp 19) = .bool true := hI.val hd 9 19 rfl rfl (by kernel_rfl)
                  have e1 : A.eval (.tmp 29) = .bool false := hI.val hd 19 29 rfl rfl (by kernel_rfl)
                  exact at_guard rfl rfl (j := 6) (k := 16) rfl (by omega) hgv (pick_op rfl e0 ⟨_, rfl, e1, hg⟩)
                rcases ix with _ | ix
                · cases hj
                  have e0 : A.eval (.tmp 16) = .bool false := hI.val hd 6 16 rfl rfl (by kernel_rfl)
                  have e1 : A.eval (.tmp 30) = .bool false := hI.val hd 20 30 rfl rfl (by kernel_rfl)
                  exact at_op rfl rfl (pick_op rfl e0 ⟨_, rfl, e1, hg⟩)
                omega
              case done =>
                intro A W hI
                have hg := hI.g
                have s31 : A.tmps.getD 31 undef = .bool false := hI.last 21 31 rfl
                have hA := hI.frame [10, 11, 12, 13, 14, 15, 16, 17, 18, 19, 20, 21, 22, 23, 24, 25, 26, 27, 28, 29, 30, 31] (by kernel_rfl)
                rw [hA]
                simp only [putAll, List.foldl_cons, List.foldl_nil, s31, Act.put, List.setIfInBounds_toArray, List.set_cons_zero, List.set_cons_succ]
                clear hA hI s31
                go_wp2
                go_roundw
                case rel => exact ⟨k + 1, by omega, by go_num, HF.out, hg⟩
                case measure => simp [intOf]; omega
            · have HF : Hid (inboxOk l = false) := show _ = _ by unfold inboxOk; rw [fitsTo_no hlt' (by unfold fits; rw [hok, hlt]; simp [hk0])]; rfl
              go_wp2_with fail
              refine region_known (by kernel_rfl) (by kernel_rfl) 0 (by decide) (by kernel_rfl) (fun _ W => Gi w (.slice (some ⟨b, off, none⟩) l.length c) l W) [.slice (some ⟨b, off, none⟩) l.length c, .int .i64 (k : Int), .pointer (some ⟨b, off + k * 3, none⟩), (M3.at' l k).val, .bool true, .bool false, .bool false, .int .i64 (k : Int), .bool true, .bool true, .slice (some ⟨b, off, none⟩) l.length c, .int .i64 (k : Int), .int .i64 ((k - 1 : Nat) : Int), .pointer (some ⟨b, off + (k - 1) * 3, none⟩), (M3.at' l (k - 1)).val, .slice (some ⟨b, off, none⟩) l.length c, .int .i64 (k : Int), .pointer (some ⟨b, off + k * 3, none⟩), (M3.at' l k).val, .bool true, .bool true, .bool true] hG.drew ?step ?done
              case step =>
                intro L ix o' A W hj hI hL hd
                have hin : ix < 22 := by
                  by_cases hl : ix < 22
                  · exact hl
                  · simp [hl] at hj
                have hsz : A.tmps.size = 35 := hI.size
                have hg := hI.g
                rcases ix with _ | ix
                · cases hj
                  have e0 : A.eval (.tmp 0) = .slice (some ⟨b, off, none⟩) l.length c := hI.old 0 (by kernel_rfl)
                  exact at_op rfl rfl (move_op rfl ⟨_, rfl, e0, hg⟩)
                rcases ix with _ | ix
                · cases hj
                  have e0 : A.eval (.tmp 3) = .int .i64 (k : Int) := hI.old 3 (by kernel_rfl)
                  exact at_op rfl rfl (move_op rfl ⟨_, rfl, e0, hg⟩)
                rcases ix with _ | ix
                · cases hj
                  have e0 : A.eval (.tmp 10) = .slice (some ⟨b, off, none⟩) l.length c := hI.val hd 0 10 rfl rfl (by kernel_rfl)
                  have e1 : A.eval (.tmp 11) = .int .i64 (k : Int) := hI.val hd 1 11 rfl rfl (by kernel_rfl)
                  exact at_op rfl rfl (ixF_op okM rfl e0 e1 (by omega) ⟨_, rfl, rfl, hg⟩)
                rcases ix with _ | ix
                · cases hj
                  have e0 : A.eval (.tmp 12) = .pointer (some ⟨b, off + k * 3, none⟩) := hI.val hd 2 12 rfl rfl (by kernel_rfl)
                  exact at_op rfl rfl (elF_op okM rfl e0 (hg.sl.range okM (at_some (by omega))) ⟨_, rfl, rfl, hg⟩)
                rcases ix with _ | ix
                · cases hj
                  have e0 : A.eval (.tmp 13) = (M3.at' l k).val := hI.val hd 3 13 rfl rfl (by kernel_rfl)
                  refine at_op rfl rfl (call_op rfl Tryz.func67 (by kernel_rfl) (by kernel_rfl) ?_)
                  simp only [List.map_cons, List.map_nil, e0]
                  refine (l9MsgOk_spec _ _).mono ?_
                  rw [hok]
                  rintro e W1 ⟨rfl, hb⟩
                  exact ⟨_, rfl, _, rfl, rfl, hg.below hb⟩
                rcases ix with _ | ix
                · cases hj
                  have e0 : A.eval (.tmp 14) = .bool true := hI.val hd 4 14 rfl rfl (by kernel_rfl)
                  refine at_op rfl rfl (val_op (v := .bool false) ?_ ⟨_, rfl, rfl, hg⟩)
                  unfold execOp
                  simp only [List.getElem_toArray, List.getElem_cons_zero, List.getElem_cons_succ, e0]
                  simp [go_sem]
                rcases ix with _ | ix
                · cases hj
                  have e0 : A.eval (.tmp 15) = .bool false := hI.val hd 5 15 rfl rfl (by kernel_rfl)
                  exact at_op rfl rfl (move_op rfl ⟨_, rfl, e0, hg⟩)
                rcases ix with _ | ix
                · cases hj
                  have hgv : A.tmps.getD 16 undef = .bool false := hI.val hd 6 16 rfl rfl (by kernel_rfl)
                  have e0 : A.eval (.tmp 3) = .int .i64 (k : Int) := hI.old 3 (by kernel_rfl)
                  exact at_guard rfl rfl (j := 6) (k := 16) rfl (by omega) hgv (move_op rfl ⟨_, rfl, e0, hg⟩)
                rcases ix with _ | ix
                · cases hj
                  have hgv : A.tmps.getD 16 undef = .bool false := hI.val hd 6 16 rfl rfl (by kernel_rfl)
                  have e0 : A.eval (.tmp 17) = .int .i64 (k : Int) := hI.val hd 7 17 rfl rfl (by kernel_rfl)
                  exact at_guard rfl rfl (j := 6) (k := 16) rfl (by omega) hgv (bin_op (vy := .int .i64 0) rfl e0 rfl (fun w => by first | (simp [go_sem]; done) | (simp [go_sem]; omega)) ⟨_, rfl, rfl, hg⟩)
                rcases ix with _ | ix
                · cases hj
                  have hgv : A.tmps.getD 16 undef = .bool false := hI.val hd 6 16 rfl rfl (by kernel_rfl)
                  have e0 : A.eval (.tmp 18) = .bool true := hI.val hd 8 18 rfl rfl (by kernel_rfl)
                  exact at_guard rfl rfl (j := 6) (k := 16) rfl (by omega) hgv (move_op rfl ⟨_, rfl, e0, hg⟩)
                rcases ix with _ | ix
                · cases hj
                  have hgv : A.tmps.getD 19 undef = .bool true := hI.val hd 9 19 rfl rfl (by kernel_rfl)
                  have e0 : A.eval (.tmp 0) = .slice (some ⟨b, off, none⟩) l.length c := hI.old 0 (by kernel_rfl)
                  exact at_guard rfl rfl (j := 9) (k := 19) rfl (by omega) hgv (move_op rfl ⟨_, rfl, e0, hg⟩)
                rcases ix with _ | ix
                · cases hj
                  have hgv : A.tmps.getD 19 undef = .bool true := hI.val hd 9 19 rfl rfl (by kernel_rfl)
                  have e0 : A.eval (.tmp 3) = .int .i64 (k : Int) := hI.old 3 (by kernel_rfl)
                  exact at_guard rfl rfl (j := 9) (k := 19) rfl (by omega) hgv (move_op rfl ⟨_, rfl, e0, hg⟩)
                rcases ix with _ | ix
                · cases hj
                  have hgv : A.tmps.getD 19 undef = .bool true := hI.val hd 9 19 rfl rfl (by kernel_rfl)
                  have e0 : A.eval (.tmp 21) = .int .i64 (k : Int) := hI.val hd 11 21 rfl rfl (by kernel_rfl)
                  exact at_guard rfl rfl (j := 9) (k := 19) rfl (by omega) hgv (bin_op (vy := .int .i64 1) rfl e0 rfl (fun w => by rw [show ((k - 1 : Nat) : Int) = (k : Int) - 1 from by omega]; exact subN _ _ _ _ w (by omega) (by omega)) ⟨_, rfl, rfl, hg⟩)
                rcases ix with _ | ix
                · cases hj
                  have hgv : A.tmps.getD 19 undef = .bool true := hI.val hd 9 19 rfl rfl (by kernel_rfl)
                  have e0 : A.eval (.tmp 20) = .slice (some ⟨b, off, none⟩) l.length c := hI.val hd 10 20 rfl rfl (by kernel_rfl)
                  have e1 : A.eval (.tmp 22) = .int .i64 ((k - 1 : Nat) : Int) := hI.val hd 12 22 rfl rfl (by kernel_rfl)
                  exact at_guard rfl rfl (j := 9) (k := 19) rfl (by omega) hgv (ixF_op okM rfl e0 e1 (by omega) ⟨_, rfl, rfl, hg⟩)
                rcases ix with _ | ix
                · cases hj
                  have hgv : A.tmps.getD 19 undef = .bool true := hI.val hd 9 19 rfl rfl (by kernel_rfl)
                  have e0 : A.eval (.tmp 23) = .pointer (some ⟨b, off + (k - 1) * 3, none⟩) := hI.val hd 13 23 rfl rfl (by kernel_rfl)
                  exact at_guard rfl rfl (j := 9) (k := 19) rfl (by omega) hgv (elF_op okM rfl e0 (hg.sl.range okM (at_some (by omega))) ⟨_, rfl, rfl, hg⟩)
                rcases ix with _ | ix
                · cases hj
                  have hgv : A.tmps.getD 19 undef = .bool true := hI.val hd 9 19 rfl rfl (by kernel_rfl)
                  have e0 : A.eval (.tmp 0) = .slice (some ⟨b, off, none⟩) l.length c := hI.old 0 (by kernel_rfl)
                  exact at_guard rfl rfl (j := 9) (k := 19) rfl (by omega) hgv (move_op rfl ⟨_, rfl, e0, hg⟩)
                rcases ix with _ | ix
                · cases hj
                  have hgv : A.tmps.getD 19 undef = .bool true := hI.val hd 9 19 rfl rfl (by kernel_rfl)
                  have e0 : A.eval (.tmp 3) = .int .i64 (k : Int) := hI.old 3 (by kernel_rfl)
                  exact at_guard rfl rfl (j := 9) (k := 19) rfl (by omega) hgv (move_op rfl ⟨_, rfl, e0, hg⟩)
                rcases ix with _ | ix
                · cases hj
                  have hgv : A.tmps.getD 19 undef = .bool true := hI.val hd 9 19 rfl rfl (by kernel_rfl)
                  have e0 : A.eval (.tmp 25) = .slice (some ⟨b, off, none⟩) l.length c := hI.val hd 15 25 rfl rfl (by kernel_rfl)
                  have e1 : A.eval (.tmp 26) = .int .i64 (k : Int) := hI.val hd 16 26 rfl rfl (by kernel_rfl)
                  exact at_guard rfl rfl (j := 9) (k := 19) rfl (by omega) hgv (ixF_op okM rfl e0 e1 (by omega) ⟨_, rfl, rfl, hg⟩)
                rcases ix with _ | ix
                · cases hj
                  have hgv : A.tmps.getD 19 undef = .bool true := hI.val hd 9 19 rfl rfl (by kernel_rfl)
                  have e0 : A.eval (.tmp 27) = .pointer (some ⟨b, off + k * 3, none⟩) := hI.val hd 17 27 rfl rfl (by kernel_rfl)
                  exact at_guard rfl rfl (j := 9) (k := 19) rfl (by omega) hgv (elF_op okM rfl e0 (hg.sl.range okM (at_some (by omega))) ⟨_, rfl, rfl, hg⟩)
                rcases ix with _ | ix
                · cases hj
                  have hgv : A.tmps.getD 19 undef = .bool true := hI.val hd 9 19 rfl rfl (by kernel_rfl)
                  have e0 : A.eval (.tmp 24) = (M3.at' l (k - 1)).val := hI.val hd 14 24 rfl rfl (by kernel_rfl)
                  have e1 : A.eval (.tmp 28) = (M3.at' l k).val := hI.val hd 18 28 rfl rfl (by kernel_rfl)
                  refine at_guard rfl rfl (j := 9) (k := 19) rfl (by omega) hgv (call_op rfl Tryz.func72 (by kernel_rfl) (by kernel_rfl) ?_)
                  simp only [List.map_cons, List.map_nil, e0, e1]
                  refine (l9Later_spec _ _ _).mono ?_
                  rw [hlt]
                  rintro e W1 ⟨rfl, hb⟩
                  exact ⟨_, rfl, _, rfl, rfl, hg.below hb⟩
                rcases ix with _ | ix
                · cases hj
                  have hgv : A.tmps.getD 16 undef = .bool false := hI.val hd 6 16 rfl rfl (by kernel_rfl)
                  have e0 : A.eval (.tmp 19) = .bool true := hI.val hd 9 19 rfl rfl (by kernel_rfl)
                  have e1 : A.eval (.tmp 29) = .bool true := hI.val hd 19 29 rfl rfl (by kernel_rfl)
                  exact at_guard rfl rfl (j := 6) (k := 16) rfl (by omega) hgv (pick_op rfl e0 ⟨_, rfl, e1, hg⟩)
                rcases ix with _ | ix
                · cases hj
                  have e0 : A.eval (.tmp 16) = .bool false := hI.val hd 6 16 rfl rfl (by kernel_rfl)
                  have e1 : A.eval (.tmp 30) = .bool true := hI.val hd 20 30 rfl rfl (by kernel_rfl)
                  exact at_op rfl rfl (pick_op rfl e0 ⟨_, rfl, e1, hg⟩)
                omega
              case done =>
                intro A W hI
                have hg := hI.g
                have s31 : A.tmps.getD 31 undef = .bool true := hI.last 21 31 rfl
                have hA := hI.frame [10, 11, 12, 13, 14, 15, 16, 17, 18, 19, 20, 21, 22, 23, 24, 25, 26, 27, 28, 29, 30, 31] (by kernel_rfl)
                rw [hA]
                simp only [putAll, List.foldl_cons, List.foldl_nil, s31, Act.put, List.setIfInBounds_toArray, List.set_cons_zero, List.set_cons_succ]
                clear hA hI s31
                go_wp2
                go_ret
                exact ⟨ret_bool (by rw [HF.out]), hg.bel⟩
          · have HF : Hid (fitsTo l (k + 1) = true) := show _ = _ by rw [fitsTo_succ, hft]; unfold fits; rw [hok]; simp [hk0]
            go_wp2_with fail
            refine region_known (by kernel_rfl) (by kernel_rfl) 0 (by decide) (by kernel_rfl) (fun _ W => Gi w (.slice (some ⟨b, off, none⟩) l.length c) l W) [.slice (some ⟨b, off, none⟩) l.length c, .int .i64 (k : Int), .pointer (some ⟨b, off + k * 3, none⟩), (M3.at' l k).val, .bool true, .bool false, .bool false, .int .i64 (k : Int), .bool false, .bool false, undef, undef, undef, undef, undef, undef, undef, undef, undef, undef, .bool false, .bool false] hG.drew ?step ?done
            case step =>
              intro L ix o' A W hj hI hL hd
              have hin : ix < 22 := by
                by_cases hl : ix < 22
                · exact hl
                · simp [hl] at hj
              have hsz : A.tmps.size = 35 := hI.size
              have hg := hI.g
              rcases ix with _ | ix
              · cases hj
                have e0 : A.eval (.tmp 0) = .slice (some ⟨b, off, none⟩) l.length c := hI.old 0 (by kernel_rfl)
                exact at_op rfl rfl (move_op rfl ⟨_, rfl, e0, hg⟩)
              rcases ix with _ | ix
              · cases hj
                have e0 : A.eval (.tmp 3) = .int .i64 (k : Int) := hI.old 3 (by kernel_rfl)
                exact at_op rfl rfl (move_op rfl ⟨_, rfl, e0, hg⟩)
              rcases ix with _ | ix
              · cases hj
                have e0 : A.eval (.tmp 10) = .slice (some ⟨b, off, none⟩) l.length c := hI.val hd 0 10 rfl rfl (by kernel_rfl)
                have e1 : A.eval (.tmp 11) = .int .i64 (k : Int) := hI.val hd 1 11 rfl rfl (by kernel_rfl)
                exact at_op rfl rfl (ixF_op okM rfl e0 e1 (by omega) ⟨_, rfl, rfl, hg⟩)
              rcases ix with _ | ix
              · cases hj
                have e0 : A.eval (.tmp 12) = .pointer (some ⟨b, off + k * 3, none⟩) := hI.val hd 2 12 rfl rfl (by kernel_rfl)
                exact at_op rfl rfl (elF_op okM rfl e0 (hg.sl.range okM (at_some (by omega))) ⟨_, rfl, rfl, hg⟩)
              rcases ix with _ | ix
              · cases hj
                have e0 : A.eval (.tmp 13) = (M3.at' l k).val := hI.val hd 3 13 rfl rfl (by kernel_rfl)
                refine at_op rfl rfl (call_op rfl Tryz.func67 (by kernel_rfl) (by kernel_rfl) ?_)
                simp only [List.map_cons, List.map_nil, e0]
                refine (l9MsgOk_spec _ _).mono ?_
                rw [hok]
                rintro e W1 ⟨rfl, hb⟩
                exact ⟨_, rfl, _, rfl, rfl, hg.below hb⟩
              rcases ix with _ | ix
              · cases hj
                have e0 : A.eval (.tmp 14) = .bool true := hI.val hd 4 14 rfl rfl (by kernel_rfl)
                refine at_op rfl rfl (val_op (v := .bool false) ?_ ⟨_, rfl, rfl, hg⟩)
                unfold execOp
                simp only [List.getElem_toArray, List.getElem_cons_zero, List.getElem_cons_succ, e0]
                simp [go_sem]
              rcases ix with _ | ix
              · cases hj
                have e0 : A.eval (.tmp 15) = .bool false := hI.val hd 5 15 rfl rfl (by kernel_rfl)
                exact at_op rfl rfl (move_op rfl ⟨_, rfl, e0, hg⟩)
              rcases ix with _ | ix
              · cases hj
                have hgv : A.tmps.getD 16 undef = .bool false := hI.val hd 6 16 rfl rfl (by kernel_rfl)
                have e0 : A.eval (.tmp 3) = .int .i64 (k : Int) := hI.old 3 (by kernel_rfl)
                exact at_guard rfl rfl (j := 6) (k := 16) rfl (by omega) hgv (move_op rfl ⟨_, rfl, e0, hg⟩)
              rcases ix with _ | ix
              · cases hj
                have hgv : A.tmps.getD 16 undef = .bool false := hI.val hd 6 16 rfl rfl (by kernel_rfl)
                have e0 : A.eval (.tmp 17) = .int .i64 (k : Int) := hI.val hd 7 17 rfl rfl (by kernel_rfl)
                exact at_guard rfl rfl (j := 6) (k := 16) rfl (by omega) hgv (bin_op (vy := .int .i64 0) rfl e0 rfl (fun w => by first | (simp [go_sem]; done) | (simp [go_sem]; omega)) ⟨_, rfl, rfl, hg⟩)
              rcases ix with _ | ix
              · cases hj
                have hgv : A.tmps.getD 16 undef = .bool false := hI.val hd 6 16 rfl rfl (by kernel_rfl)
                have e0 : A.eval (.tmp 18) = .bool false := hI.val hd 8 18 rfl rfl (by kernel_rfl)
                exact at_guard rfl rfl (j := 6) (k := 16) rfl (by omega) hgv (move_op rfl ⟨_, rfl, e0, hg⟩)
              rcases ix with _ | ix
              · cases hj
                have hgv : A.tmps.getD 19 undef = .bool false := hI.val hd 9 19 rfl rfl (by kernel_rfl)
                exact at_skip rfl rfl (j := 9) (k := 19) rfl (by rw [hgv]; simp [undef]) ⟨_, rfl, rfl, hg⟩
              rcases ix with _ | ix
              · cases hj
                have hgv : A.tmps.getD 19 undef = .bool false := hI.val hd 9 19 rfl rfl (by kernel_rfl)
                exact at_skip rfl rfl (j := 9) (k := 19) rfl (by rw [hgv]; simp [undef]) ⟨_, rfl, rfl, hg⟩
              rcases ix with _ | ix
              · cases hj
                have hgv : A.tmps.getD 19 undef = .bool false := hI.val hd 9 19 rfl rfl (by kernel_rfl)
                exact at_skip rfl rfl (j := 9) (k := 19) rfl (by rw [hgv]; simp [undef]) ⟨_, rfl, rfl, hg⟩
              rcases ix with _ | ix
              · cases hj
                have hgv : A.tmps.getD 19 undef = .bool false := hI.val hd 9 19 rfl rfl (by kernel_rfl)
                exact at_skip rfl rfl (j := 9) (k := 19) rfl (by rw [hgv]; simp [undef]) ⟨_, rfl, rfl, hg⟩
              rcases ix with _ | ix
              · cases hj
                have hgv : A.tmps.getD 19 undef = .bool false := hI.val hd 9 19 rfl rfl (by kernel_rfl)
                exact at_skip rfl rfl (j := 9) (k := 19) rfl (by rw [hgv]; simp [undef]) ⟨_, rfl, rfl, hg⟩
              rcases ix with _ | ix
              · cases hj
                have hgv : A.tmps.getD 19 undef = .bool false := hI.val hd 9 19 rfl rfl (by kernel_rfl)
                exact at_skip rfl rfl (j := 9) (k := 19) rfl (by rw [hgv]; simp [undef]) ⟨_, rfl, rfl, hg⟩
              rcases ix with _ | ix
              · cases hj
                have hgv : A.tmps.getD 19 undef = .bool false := hI.val hd 9 19 rfl rfl (by kernel_rfl)
                exact at_skip rfl rfl (j := 9) (k := 19) rfl (by rw [hgv]; simp [undef]) ⟨_, rfl, rfl, hg⟩
              rcases ix with _ | ix
              · cases hj
                have hgv : A.tmps.getD 19 undef = .bool false := hI.val hd 9 19 rfl rfl (by kernel_rfl)
                exact at_skip rfl rfl (j := 9) (k := 19) rfl (by rw [hgv]; simp [undef]) ⟨_, rfl, rfl, hg⟩
              rcases ix with _ | ix
              · cases hj
                have hgv : A.tmps.getD 19 undef = .bool false := hI.val hd 9 19 rfl rfl (by kernel_rfl)
                exact at_skip rfl rfl (j := 9) (k := 19) rfl (by rw [hgv]; simp [undef]) ⟨_, rfl, rfl, hg⟩
              rcases ix with _ | ix
              · cases hj
                have hgv : A.tmps.getD 19 undef = .bool false := hI.val hd 9 19 rfl rfl (by kernel_rfl)
                exact at_skip rfl rfl (j := 9) (k := 19) rfl (by rw [hgv]; simp [undef]) ⟨_, rfl, rfl, hg⟩
              rcases ix with _ | ix
              · cases hj
                have hgv : A.tmps.getD 16 undef = .bool false := hI.val hd 6 16 rfl rfl (by kernel_rfl)
                have e0 : A.eval (.tmp 19) = .bool false := hI.val hd 9 19 rfl rfl (by kernel_rfl)
                have e1 : A.eval (.tmp 29) = undef := hI.val hd 19 29 rfl rfl (by kernel_rfl)
                exact at_guard rfl rfl (j := 6) (k := 16) rfl (by omega) hgv (pick_op rfl e0 ⟨_, rfl, rfl, hg⟩)
              rcases ix with _ | ix
              · cases hj
                have e0 : A.eval (.tmp 16) = .bool false := hI.val hd 6 16 rfl rfl (by kernel_rfl)
                have e1 : A.eval (.tmp 30) = .bool false := hI.val hd 20 30 rfl rfl (by kernel_rfl)
                exact at_op rfl rfl (pick_op rfl e0 ⟨_, rfl, e1, hg⟩)
              omega
            case done =>
              intro A W hI
              have hg := hI.g
              have s31 : A.tmps.getD 31 undef = .bool false := hI.last 21 31 rfl
              have hA := hI.frame [10, 11, 12, 13, 14, 15, 16, 17, 18, 19, 20, 21, 22, 23, 24, 25, 26, 27, 28, 29, 30, 31] (by kernel_rfl)
              rw [hA]
              simp only [putAll, List.foldl_cons, List.foldl_nil, s31, Act.put, List.setIfInBounds_toArray, List.set_cons_zero, List.set_cons_succ]
              clear hA hI s31
              go_wp2
              go_roundw
              case rel => exact ⟨k + 1, by omega, by go_num, HF.out, hg⟩
              case measure => simp [intOf]; omega
      · have hk' : k = l.length := by omega
        have HF : Hid (inboxOk l = decide (l.length ≤ 200)) := show _ = _ by unfold inboxOk; rw [← hk', hft]; rfl
        have hbel := hG.bel
        go_wp2
        go_ret
        exact ⟨ret_bool (by rw [HF.out]; simp <;> omega), hbel⟩
  · obtain ⟨a, cap, rfl, h1⟩ := h
    have hl : l = [] := List.eq_nil_of_length_eq_zero (by omega)
    subst hl
    go_enter Tryz.func18, Tryz.ntmps18
    go_wp2_with fail
    go_loopw [3] (fun i wr => i = .int .i64 0 ∧ wr = w) (fun i _ => 0)
    case atStart => exact ⟨rfl, rfl⟩
    case round =>
      obtain ⟨rfl, rfl⟩ := hrel
      go_wp2
      go_ret
      exact ⟨rfl, Below.refl _ _⟩
end Go.Proofs.YtghmkacamabndaaGreatDoor.Mem
namespace Go.Proofs.YtghmkacamabndaaGreatDoor.Ex
open Go.ChangeShapes Go.WideShapes Go.RowKit Base Slc

theorem set_step (l : List Int) (k : Nat) (h : k < l.length) : (l.take k ++ List.replicate (l.length - k) 0).set k (l.getD k 0) = l.take (k + 1) ++ List.replicate (l.length - (k + 1)) 0 := by
  rw [getD_take h]
  have e : l.length - k = (l.length - (k + 1)) + 1 := by omega
  rw [e, List.replicate_succ, List.set_append_right _ _ (by simp; omega)]
  have : (l.take k).length = k := by simp; omega
  simp [this]

theorem to_any (v : Value) (l : List Int) (w : World) (h : Sl w v l) (hb : l.length ≤ 4000000) :
    Calls Tryz.prog 92 #[v] w fun e w' => ∃ v', e = .returned v' ∧ Own w.heap.size w' v' l ∧ Below w.heap.size w w' := by
  obtain ⟨a, cap, rfl, hat, hlc, hcm, hnil⟩ := h
  have HS : Hid (IntsAt w a l.length l) := hat
  unfold maxLen at hcm
  clear hat hnil
  go_enter Tryz.func92, Tryz.ntmps92
  go_wp2_with (at_make; refine make64 rfl (.tmp 6) (.tmp 6) rfl w.heap.size l.length _ rfl rfl rfl (by omega) (Nat.le_refl _) ?_; intro w1 ho hg; have HO : Hid (Own w.heap.size w1 (.slice (some ⟨w.heap.size, 0, none⟩) l.length l.length) (l.take 0 ++ List.replicate (l.length - 0) 0) ∧ Below w.heap.size w w1) := ⟨by simpa using ho, (Below.refl _ _).grown hg (Nat.le_refl _) (by simp)⟩; clear ho hg)
  go_loopw [4] (fun i wr => ∃ k : Nat, k ≤ l.length ∧ i = .int .i64 k ∧ Own w.heap.size wr (.slice (some ⟨w.heap.size, 0, none⟩) l.length l.length) (l.take k ++ List.replicate (l.length - k) 0) ∧ Below w.heap.size w wr) (fun i _ => l.length - (intOf i).toNat)
  case atStart => exact ⟨0, Nat.zero_le _, rfl, HO.out.1, HO.out.2⟩
  case round =>
    obtain ⟨k, hk, rfl, ho, hbw⟩ := hrel
    have HO2 : Hid (Own w.heap.size wr (.slice (some ⟨w.heap.size, 0, none⟩) l.length l.length) (l.take k ++ List.replicate (l.length - k) 0)) := ho
    have HB : Hid (Below w.heap.size w wr) := hbw
    by_cases hlt : k < l.length
    · rcases HS.out.2 with h0 | ⟨b, off, rfl, hbl, hcell⟩
      · omega
      · have hz := hcell k hlt
        have hz2 : wr.cell? ⟨b, off + k, none⟩ = some (.int .i64 (l.getD k 0)) := by rw [hbw.cell (p := ⟨b, off + k, none⟩) hbl]; exact hz
        have hc2 := ho.cellAt (j := k) (by simp; omega)
        have hf2 := ho.free k
        clear hcell hz ho hbw
        obtain ⟨z, hzz⟩ : ∃ z, z = l.getD k 0 := ⟨_, rfl⟩
        rw [← hzz] at hz2
        have HZ : Hid (z = l.getD k 0) := hzz
        clear hzz
        obtain ⟨y, hyy⟩ : ∃ y, y = (l.take k ++ List.replicate (l.length - k) 0).getD k 0 := ⟨_, rfl⟩
        rw [← hyy] at hc2
        clear hyy
        go_wp2
        go_roundw
        case rel => exact ⟨k + 1, by omega, by go_num, by rw [← set_step l k hlt, ← HZ.out]; exact (HO2.out.store k z).1, HB.out.grown (HO2.out.store k z).2 HB.out.size (by simp)⟩
        case measure => simp [intOf]; omega
    · clear ho hbw
      go_wp2
      go_ret
      have e : k = l.length := by omega
      subst e
      exact ⟨_, rfl, by simpa using HO2.out, HB.out⟩

theorem take_both {l1 l2 : List Int} {k : Nat} (h : l1.take k = l2.take k) (h1 : k < l1.length) (h2 : k < l2.length) (hz : l1.getD k 0 = l2.getD k 0) : l1.take (k + 1) = l2.take (k + 1) := by
  rw [getD_take h1, getD_take h2, h, hz]
theorem eq_any (v1 v2 : Value) (l1 l2 : List Int) (w : World) (h1 : Sl w v1 l1) (h2 : Sl w v2 l2) :
    Calls Tryz.prog 97 #[v1, v2] w fun e w' => e = .returned (.bool (decide (l1 = l2))) ∧ ∃ n, w' = w.drewN n := by
  obtain ⟨a1, cap1, rfl, hat1, hlc1, hcm1, hnil1⟩ := h1
  obtain ⟨a2, cap2, rfl, hat2, hlc2, hcm2, hnil2⟩ := h2
  unfold maxLen at hcm1 hcm2
  have H1 : Hid (IntsAt w a1 l1.length l1) := hat1
  have H2 : Hid (IntsAt w a2 l2.length l2) := hat2
  clear hat1 hat2 hnil1 hnil2
  by_cases hll : l1.length = l2.length
  · go_enter Tryz.func97, Tryz.ntmps97
    go_wp2
    go_loopw [5] (fun i wr => ∃ k : Nat, k ≤ l1.length ∧ i = .int .i64 k ∧ l1.take k = l2.take k ∧ ∃ n, wr = w.drewN n) (fun i _ => l1.length - (intOf i).toNat)
    case atStart => exact ⟨0, Nat.zero_le _, rfl, rfl, 0, rfl⟩
    case round =>
      obtain ⟨k, hk, rfl, htk, n, rfl⟩ := hrel
      have HT : Hid (l1.take k = l2.take k) := htk
      have HL : Hid (l1.length = l2.length) := hll
      clear htk
      by_cases hlt : k < l1.length
      · rcases H1.out.2 with h0 | ⟨b1, off1, rfl, hbl1, hcell1⟩
        · omega
        · rcases H2.out.2 with h0 | ⟨b2, off2, rfl, hbl2, hcell2⟩
          · omega
          · have hz1 := hcell1 k hlt
            have hz2 := hcell2 k (by omega)
            obtain ⟨z1, hzz1⟩ : ∃ z, z = l1.getD k 0 := ⟨_, rfl⟩
            obtain ⟨z2, hzz2⟩ : ∃ z, z = l2.getD k 0 := ⟨_, rfl⟩
            rw [← hzz1] at hz1
            rw [← hzz2] at hz2
            have hk1 : (k : Int) < (l1.length : Int) := by omega
            have hk2 : (k : Int) < (l2.length : Int) := by omega
            have hk3 : k < l2.length := by omega
            have HZ1 : Hid (z1 = l1.getD k 0) := hzz1
            have HZ2 : Hid (z2 = l2.getD k 0) := hzz2
            clear hzz1 hzz2 hcell1 hcell2 hll
            by_cases hz : z1 = z2
            · have hzt : (z1 == z2) = true := by simp [hz]
              have HZ : Hid (z1 = z2) := hz
              clear hz
              go_wp2
              go_quiet (fail)
              go_wp2
              go_roundw
              case rel => exact ⟨k + 1, by omega, by go_num, take_both HT.out hlt hk3 (by rw [← HZ1.out, ← HZ2.out]; exact HZ.out), _, rfl⟩
              case measure => simp [intOf]; omega
            · have hzf : (z1 == z2) = false := by simp [hz]
              have HD : Hid (decide (l1 = l2) = false) := by show decide (l1 = l2) = false; simp; intro e; exact hz (by rw [HZ1.out, HZ2.out, e])
              clear hz
              go_wp2
              go_quiet (fail)
              go_wp2
              go_ret
              exact ⟨ret_bool HD.out.symm, _, World.drewN_drewN _ _ _⟩
      · clear hll
        go_wp2
        go_ret
        have e1 : l1.take k = l1 := List.take_of_length_le (by omega)
        have e2 : l2.take k = l2 := List.take_of_length_le (by have := HL.out; omega)
        have e3 := HT.out
        rw [e1, e2] at e3
        exact ⟨ret_bool (by simp [e3]), _, rfl⟩
  · have HD : Hid (decide (l1 = l2) = false) := by show decide (l1 = l2) = false; simp; intro e; exact hll (by rw [e])
    have hne : ((l1.length : Int) == (l2.length : Int)) = false := by simp; omega
    go_enter Tryz.func97, Tryz.ntmps97
    go_wp2
    go_ret
    exact ⟨ret_bool HD.out.symm, 0, rfl⟩

def marks (k : Nat) : Nat → List Int
  | 0 => []
  | n + 1 => (k : Int) :: marks (k + 1) n
theorem marks_length (k n : Nat) : (marks k n).length = n := by
  induction n generalizing k with
  | zero => rfl
  | succ n ih => simp [marks, ih]
theorem marks_snoc (k n : Nat) : marks k (n + 1) = marks k n ++ [((k + n : Nat) : Int)] := by
  induction n generalizing k with
  | zero => simp [marks]
  | succ n ih =>
    have := ih (k + 1)
    rw [marks, this, marks]
    simp
    omega
theorem marks_getD (k n j : Nat) (h : j < n) : (marks k n).getD j 0 = ((k + j : Nat) : Int) := by
  induction n generalizing k j with
  | zero => omega
  | succ n ih =>
    cases j with
    | zero => simp [marks]
    | succ j =>
      have := ih (k + 1) j (by omega)
      simp only [marks, List.getD_cons_succ, this]
      omega
theorem mark_step (k : Nat) (l : List Int) (j : Nat) (h : j < l.length) : (marks k j ++ l.drop j).set j ((k + j : Nat) : Int) = marks k (j + 1) ++ l.drop (j + 1) := by
  rw [marks_snoc, List.set_append_right _ _ (by rw [marks_length]; omega), marks_length, Nat.sub_self, List.drop_eq_getElem_cons h, List.set_cons_zero]
  simp

theorem mark_any (v : Value) (l : List Int) (w : World) (base k : Nat) (h : Own base w v l) (hb : l.length ≤ 4000000) (hk : k ≤ 1000000000) :
    Calls Tryz.prog 101 #[v, .int .i64 (k : Int)] w fun e w' => e = .returned (.int .i64 ((k + l.length : Nat) : Int)) ∧ Own base w' v (marks k l.length) ∧ w.grownBy w' v.ownBlock := by
  have HO : Hid (Own base w v l) := h
  rcases h.2 with ⟨rfl, h0⟩ | ⟨g, cap, cur, rfl, hbg, hg, hn, hm, hcs, ht⟩
  · have hl : l = [] := List.eq_nil_of_length_eq_zero h0
    subst hl
    go_enter Tryz.func101, Tryz.ntmps101
    go_wp2
    refine wp_loop_rounds 1 ?_
    rw [rounds_succ]
    go_wp2
    go_ret
    exact ⟨rfl, Own.nil _ _, World.grownBy.refl _ _⟩
  · unfold maxLen at hm
    clear h hg hcs ht cur
    go_enter Tryz.func101, Tryz.ntmps101
    go_wp2
    go_loopw [1, 5] (fun q i wr => ∃ j : Nat, j ≤ l.length ∧ i = .int .i64 j ∧ q = .int .i64 ((k + j : Nat) : Int) ∧ Own base wr (.slice (some ⟨g, 0, none⟩) l.length cap) (marks k j ++ l.drop j) ∧ w.grownBy wr (some g)) (fun _ i _ => l.length - (intOf i).toNat)
    case atStart => exact ⟨0, Nat.zero_le _, rfl, rfl, by simpa [marks] using HO.out, World.grownBy.refl _ _⟩
    case round =>
      obtain ⟨j, hj, rfl, rfl, ho, hgw⟩ := hrel
      have HO2 : Hid (Own base wr (.slice (some ⟨g, 0, none⟩) l.length cap) (marks k j ++ l.drop j)) := ho
      have HG : Hid (w.grownBy wr (some g)) := hgw
      clear hgw
      by_cases hlt : j < l.length
      · have hc2 := ho.cellAt (j := j) (by simp [marks_length]; omega)
        have hf2 := ho.free j
        clear ho
        obtain ⟨y, hyy⟩ : ∃ y, y = (marks k j ++ l.drop j).getD j 0 := ⟨_, rfl⟩
        rw [← hyy] at hc2
        clear hyy
        go_wp2
        go_roundw
        case rel => exact ⟨j + 1, by omega, by go_num, by go_num, by rw [← mark_step k l j hlt]; exact (HO2.out.store j _).1, grown_trans HG.out (HO2.out.store j _).2⟩
        case measure => simp [intOf]; omega
      · clear ho
        go_wp2
        go_ret
        have e : j = l.length := by omega
        subst e
        exact ⟨rfl, by simpa using HO2.out, HG.out⟩

theorem held_any (v : Value) (n : Nat) (w : World) (k : Nat) (h : Sl w v (marks k n)) (hb : n ≤ 4000000) (hk : k ≤ 1000000000) :
    Calls Tryz.prog 150 #[v, .int .i64 (k : Int)] w fun e w' => e = .returned (.int .i64 ((k + n : Nat) : Int)) ∧ w' = w := by
  obtain ⟨a, cap, rfl, hat, hlc, hcm, hnil⟩ := h
  unfold maxLen at hcm
  obtain ⟨hlen, hc⟩ := hat
  rw [marks_length] at *
  clear hnil hlen
  go_enter Tryz.func150, Tryz.ntmps150
  go_wp2
  go_loop [1, 5] (fun q i => ∃ j : Nat, j ≤ n ∧ i = .int .i64 j ∧ q = .int .i64 ((k + j : Nat) : Int)) (fun _ i => n - (intOf i).toNat)
  case atStart => exact ⟨0, Nat.zero_le _, rfl, rfl⟩
  case round =>
    obtain ⟨j, hj, rfl, rfl⟩ := hrel
    by_cases hlt : j < n
    · rcases hc with h0 | ⟨b, off, rfl, hbl, hcell⟩
      · omega
      · have hz := hcell j hlt
        rw [marks_getD k n j hlt] at hz
        clear hcell
        go_wp2
        go_round
        case rel => exact ⟨j + 1, by omega, by go_num, by go_num⟩
        case measure => simp [intOf]; omega
    · go_wp2
      go_ret
      have e : j = n := by omega
      subst e
      exact ⟨rfl, rfl⟩
end Go.Proofs.YtghmkacamabndaaGreatDoor.Ex
namespace Go.Proofs.YtghmkacamabndaaGreatDoor.Mem
open Go.ChangeShapes Go.WideShapes Go.RowKit Base Num Slc Slf Rw Tmr Reg Ex

def fL : Fl M3 := ⟨121, 70, 3, 24, M3.cs, M3.nul⟩
theorem okL : fL.Ok := ⟨fun _ => rfl, by decide, fun _ => rfl, by kernel_rfl, by kernel_rfl, by decide, by decide, ⟨_, Tryz.underlying121, rfl⟩⟩
theorem own_there {α : Type} {f : Fl α} (hf : f.Ok) {base g n cap i : Nat} {w : World} {l : List α} {e : α} (h : OwnF f base w (.slice (some ⟨g, 0, none⟩) n cap) l) (hi : l[i]? = some e) : w.there g (i * f.n) f.n := fun j hj => by
  have hc := h.cellAt hf hi hj
  have hfr := h.free (i * f.n + j)
  refine ⟨?_, hfr⟩
  rw [hc]
  have := hf.len e
  rw [List.getElem?_eq_getElem (by omega)]
  rfl
section
variable {f : Fl M3} {ops : Array Oper} {rest : List Oper} {o : Oper} {a : Act} {w : World} {Q : Exit → Act → World → Prop} {x y : Operand} {g base n cap i j q : Nat} {l : List M3} {e e' : M3} {z : Int}
theorem stE (hf : f.Ok) (hn : f.n = 3) (hgd : o.guard = none) (ho : o.op = .store 2 x y) (hx : a.eval x = .pointer (some ⟨g, q, none⟩)) (hy : a.eval y = .int .i64 z) (hown : OwnF f base w (.slice (some ⟨g, 0, none⟩) n cap) l) (hi : l[i]? = some e) (hq : q = i * f.n + j) (hj : j < 3)
    (hset : (f.F e).set j (.int .i64 z) = f.F e') (h : ∀ w', OwnF f base w' (.slice (some ⟨g, 0, none⟩) n cap) (l.set i e') → w.grownBy w' (some g) → wpList Tryz.prog ops Q rest (a.put o.dst undef) w') : wpList Tryz.prog ops Q (o :: rest) a w :=
  wpList_plain hgd fun _ hK => by
    rw [hn] at hq
    subst hq
    have ht : w.there g (i * 3 + j) [Value.int .i64 z].length := fun k hk => by
      have hk0 : k = 0 := by simpa using hk
      subst hk0
      have := own_there hf hown hi j (by omega)
      rwa [hn] at this
    have hs := hown.store hf hi (j := j) (by omega) hset
    rw [hn] at hs
    unfold Oper.wp execOp
    simp only [ho, hx, hy, Instr.storeAt, Instr.sureAddr, Sem.run_bind, Sem.run_pure, Result.andThen_ok, run_store_in (P := Tryz.prog) w g (i * 3 + j) 2 (.int .i64 z) [.int .i64 z] rfl ht (by kernel_rfl) rfl]
    exact hK _ _ (h _ hs.1 hs.2)
theorem stF (hf : f.Ok) (hn : f.n = 3) (hF : f.F = M3.cs) (hgd : o.guard = none) (ho : o.op = .store f.T x y) (hx : a.eval x = .pointer (some ⟨g, q, none⟩)) (hy : a.eval y = e'.val) (hown : OwnF f base w (.slice (some ⟨g, 0, none⟩) n cap) l) (hi : l[i]? = some e) (hq : q = i * 3)
    (h : ∀ w', OwnF f base w' (.slice (some ⟨g, 0, none⟩) n cap) (l.set i e') → w.grownBy w' (some g) → wpList Tryz.prog ops Q rest (a.put o.dst undef) w') : wpList Tryz.prog ops Q (o :: rest) a w :=
  wpList_plain hgd fun _ hK => by
    subst hq
    have ht : w.there g (i * 3) e'.cs.length := by
      have := own_there hf hown hi
      rwa [hn] at this
    have hil : i < l.length := (List.getElem?_eq_some_iff.1 hi).1
    have s0 := hown.store hf hi (j := 0) (x' := ⟨e'.t, e.k, e.v⟩) (u := .int .i64 e'.t) (by omega) (by rw [hF]; rfl)
    have s1 := s0.1.store hf (i := i) (x := ⟨e'.t, e.k, e.v⟩) (by simp [hil]) (j := 1) (x' := ⟨e'.t, e'.k, e.v⟩) (u := .int .i64 e'.k) (by omega) (by rw [hF]; rfl)
    have s2 := s1.1.store hf (i := i) (x := ⟨e'.t, e'.k, e.v⟩) (by simp [hil]) (j := 2) (x' := e') (u := .int .i64 e'.v) (by omega) (by rw [hF]; rfl)
    rw [hn] at s0 s1 s2
    have hset : ((l.set i ⟨e'.t, e.k, e.v⟩).set i ⟨e'.t, e'.k, e.v⟩).set i e' = l.set i e' := by simp
    have hsz : (Tryz.prog.info? f.T).map (·.size) = some e'.cs.length := by have := size_info hf e'; rwa [hF] at this
    unfold Oper.wp execOp
    simp only [ho, hx, hy, Instr.storeAt, Instr.sureAddr, Sem.run_bind, Sem.run_pure, Result.andThen_ok, run_store_in (P := Tryz.prog) w g (i * 3) f.T e'.val e'.cs rfl ht hsz rfl]
    exact hK _ _ (h _ (hset ▸ s2.1) (grown_trans (grown_trans s0.2 s1.2) s2.2))
end
theorem szMsgS_any (v : Value) (l : List M3) (left : Int) (w : World) (h : SlF fL w v l) (hl : 0 ≤ left ∧ left ≤ 1048576) :
    Calls Tryz.prog 37 #[v, .int .i64 left] w fun e w' => e = .returned (.int .i64 (if left < l.length then -1 else left - l.length)) ∧ w' = w := by
  obtain ⟨a, cap, rfl, -, hlc, hcm, -⟩ := h
  unfold maxLen at hcm
  by_cases hh : left < (l.length : Int)
  · rw [if_pos hh]
    go_enter Tryz.func37, Tryz.ntmps37
    go_wp2
    go_ret
    exact ⟨rfl, rfl⟩
  · rw [if_neg hh]
    go_enter Tryz.func37, Tryz.ntmps37
    go_wp2
    go_ret
    exact ⟨rfl, rfl⟩
theorem toMsg_any (m : M3) (w : World) : Calls Tryz.prog 95 #[m.val] w fun e w' => e = .returned m.val ∧ Below w.heap.size w w' := by
  obtain ⟨t, k, v⟩ := m
  have hB : Hid (Below w.heap.size w ((((w.alloc (.cells #[.int .i64 t, .int .i64 k, .int .i64 v] 121)).alloc (.cells #[.int .i64 t, .int .i64 k, .int .i64 v] 40)).alloc (.cells #[.int .i64 t, .int .i64 k, .int .i64 v] 40)))) := (((Below.refl _ w).alloc (Nat.le_refl _) _).alloc (by simp) _).alloc (by simp; omega) _
  rw [m3_val]
  go_enter Tryz.func95, Tryz.ntmps95
  go_wp2
  exact ret_row rfl rfl (((Row.new1 (w := w.alloc _) (n := w.heap.size + 1) (by simp) _ _).alloc _)) Tryz.underlying40 rfl info_m3 rfl ⟨rfl, hB.out⟩
theorem set3_step (l : List M3) (k : Nat) (h : k < l.length) : (l.take k ++ List.replicate (l.length - k) M3.nul).set k (M3.at' l k) = l.take (k + 1) ++ List.replicate (l.length - (k + 1)) M3.nul := by
  have e : l.length - k = (l.length - (k + 1)) + 1 := by omega
  rw [e, List.replicate_succ, List.set_append_right _ _ (by simp; omega), List.take_succ_eq_append_getElem h]
  have h1 : (l.take k).length = k := by simp; omega
  have h2 : M3.at' l k = l[k] := by
    unfold M3.at'
    simp [List.getD_eq_getElem?_getD, List.getElem?_eq_getElem h]
  rw [h1, Nat.sub_self, List.set_cons_zero, h2, List.append_assoc]
  rfl
theorem toMsgS_any (v : Value) (l : List M3) (w : World) (h : SlF fL w v l) (hb : l.length ≤ 4000000) :
    Calls Tryz.prog 39 #[v] w fun e w' => ∃ v', e = .returned v' ∧ OwnF fM w.heap.size w' v' l ∧ Below w.heap.size w w' := by
  have HS : Hid (SlF fL w v l) := h
  obtain ⟨a, cap, rfl, -, hlc, hcm, -⟩ := h
  unfold maxLen at hcm
  go_enter Tryz.func39, Tryz.ntmps39
  go_wp2_with (at_make; refine makeF okM rfl (.tmp 6) (.tmp 6) rfl w.heap.size l.length _ rfl rfl rfl (by omega) (Nat.le_refl _) ?_; intro w1 ho hg; have HO : Hid (OwnF fM w.heap.size w1 (.slice (some ⟨w.heap.size, 0, none⟩) l.length l.length) (l.take 0 ++ List.replicate (l.length - 0) M3.nul) ∧ Below w.heap.size w w1) := ⟨by rw [show l.take 0 ++ List.replicate (l.length - 0) M3.nul = List.replicate l.length fM.z by simp [fM]]; exact ho, (Below.refl _ _).grown hg (Nat.le_refl _) (by simp)⟩; clear ho hg)
  go_loopw [4] (fun i wr => ∃ k : Nat, k ≤ l.length ∧ i = .int .i64 k ∧ OwnF fM w.heap.size wr (.slice (some ⟨w.heap.size, 0, none⟩) l.length l.length) (l.take k ++ List.replicate (l.length - k) M3.nul) ∧ Below w.heap.size w wr) (fun i _ => l.length - (intOf i).toNat)
  case atStart => exact ⟨0, Nat.zero_le _, rfl, HO.out.1, HO.out.2⟩
  case round =>
    obtain ⟨k, hk, rfl, ho, hbw⟩ := hrel
    have HO2 : Hid (OwnF fM w.heap.size wr (.slice (some ⟨w.heap.size, 0, none⟩) l.length l.length) (l.take k ++ List.replicate (l.length - k) M3.nul)) := ho
    have HB : Hid (Below w.heap.size w wr) := hbw
    by_cases hlt : k < l.length
    · obtain ⟨b, off, c, e, -, -, -⟩ := HS.out.shape (by omega)
      simp only [Value.slice.injEq] at e
      obtain ⟨rfl, -, rfl⟩ := e
      have hsl := HS.out.below hbw
      clear ho hbw
      go_wp2_with (first
        | (refine ixF okL (r := k) rfl rfl rfl rfl hlt ?_)
        | (refine elF okL rfl rfl rfl (hsl.range okL (at_some hlt)) ?_)
        | (go_at_call 95; refine (toMsg_any (M3.at' l k) _).mono ?_; rintro e w2 ⟨rfl, hb2⟩; have ho2 := HO2.out.below hb2; have hB2 := HB.out.trans (hb2.mono HB.out.size))
        | (refine ixF okM (r := k) rfl rfl rfl rfl hlt ?_)
        | (refine stF okM rfl rfl (e' := M3.at' l k) rfl rfl rfl rfl ho2 (at_some (by simp; omega)) (Nat.zero_add _) ?_; rintro w3 ho3 hg3; have hB3 := hB2.grown hg3 hB2.size (by intro q hq; cases hq; exact Nat.le_refl _)))
      go_roundw
      case rel => exact ⟨k + 1, by omega, by go_num, by rw [← set3_step l k hlt]; exact ho3, hB3⟩
      case measure => simp [intOf]; omega
    · clear ho hbw
      go_wp2
      go_ret
      have e : k = l.length := by omega
      subst e
      exact ⟨_, rfl, by simpa using HO2.out, HB.out⟩
theorem eqMsg_same (m : M3) (w : World) : Calls Tryz.prog 100 #[m.val, m.val] w fun e w' => e = .returned (.bool true) ∧ Below w.heap.size w w' := by
  obtain ⟨t, k, v⟩ := m
  have hB : Hid (Below w.heap.size w ((w.alloc (.cells #[.int .i64 t, .int .i64 k, .int .i64 v] 40)).alloc (.cells #[.int .i64 t, .int .i64 k, .int .i64 v] 40))) := ((Below.refl _ w).alloc (Nat.le_refl _) _).alloc (by simp) _
  rw [m3_val]
  go_enter Tryz.func100, Tryz.ntmps100
  go_wp2
  go_ret
  exact ⟨rfl, hB.out⟩
structure Gii (f : Fl M3) (w : World) (v u : Value) (l : List M3) (W : World) : Prop where
  sl : SlF f W v l
  su : SlF f W u l
  bel : Below w.heap.size w W
theorem Gii.below {f : Fl M3} {w W W' : World} {v u : Value} {l : List M3} (h : Gii f w v u l W) (hb : Below W.heap.size W W') : Gii f w v u l W' := ⟨h.sl.below hb, h.su.below hb, below_more h.bel hb⟩
theorem Gii.drew {f : Fl M3} {w W : World} {v u : Value} {l : List M3} (h : Gii f w v u l W) : Gii f w v u l W.drew := h.below (drew_below (n := 1) rfl)
theorem eqMsgS_same (v u : Value) (l : List M3) (w : World) (h1 : SlF fM w v l) (h2 : SlF fM w u l) :
    Calls Tryz.prog 42 #[v, u] w fun e w' => e = .returned (.bool true) ∧ Below w.heap.size w w' := by
  have hG : Gii fM w v u l w := ⟨h1, h2, Below.refl _ _⟩
  obtain ⟨a, c, rfl, -, hlc, hcm, -⟩ := h1
  obtain ⟨a2, c2, rfl, -, hlc2, hcm2, -⟩ := h2
  unfold maxLen at hcm hcm2
  have hll : ((l.length : Int) != (l.length : Int)) = false := by simp
  go_enter Tryz.func42, Tryz.ntmps42
  go_wp2_with fail
  go_loopw [5] (fun i wr => ∃ k : Nat, k ≤ l.length ∧ i = .int .i64 k ∧ Gii fM w (.slice a l.length c) (.slice a2 l.length c2) l wr) (fun i _ => l.length - (intOf i).toNat)
  case atStart => exact ⟨0, Nat.zero_le _, rfl, hG⟩
  case round =>
    clear hG
    obtain ⟨k, hk, rfl, hG⟩ := hrel
    by_cases hlt : k < l.length
    · obtain ⟨b, off, c', e, -, -, -⟩ := hG.sl.shape (by omega)
      simp only [Value.slice.injEq] at e
      obtain ⟨rfl, -, rfl⟩ := e
      obtain ⟨b2, off2, c2', e, -, -, -⟩ := hG.su.shape (by omega)
      simp only [Value.slice.injEq] at e
      obtain ⟨rfl, -, rfl⟩ := e
      go_wp2_with fail
      refine region_known (by kernel_rfl) (by kernel_rfl) 0 (by decide) (by kernel_rfl) (fun _ W => Gii fM w (.slice (some ⟨b, off, none⟩) l.length c) (.slice (some ⟨b2, off2, none⟩) l.length c2) l W) [.slice (some ⟨b, off, none⟩) l.length c, .int .i64 (k : Int), .pointer (some ⟨b, off + k * 3, none⟩), (M3.at' l k).val, .slice (some ⟨b2, off2, none⟩) l.length c2, .int .i64 (k : Int), .pointer (some ⟨b2, off2 + k * 3, none⟩), (M3.at' l k).val, .bool true, .bool false] hG.drew ?step ?done
      case step =>
        intro L ix o' A W hj hI hL hd
        have hin : ix < 10 := by
          by_cases hl : ix < 10
          · exact hl
          · simp [hl] at hj
        have hsz : A.tmps.size = 27 := hI.size
        have hg := hI.g
        rcases ix with _ | ix
        · cases hj
          have e0 : A.eval (.tmp 0) = .slice (some ⟨b, off, none⟩) l.length c := hI.old 0 (by kernel_rfl)
          exact at_op rfl rfl (move_op rfl ⟨_, rfl, e0, hg⟩)
        rcases ix with _ | ix
        · cases hj
          have e0 : A.eval (.tmp 5) = .int .i64 (k : Int) := hI.old 5 (by kernel_rfl)
          exact at_op rfl rfl (move_op rfl ⟨_, rfl, e0, hg⟩)
        rcases ix with _ | ix
        · cases hj
          have e0 : A.eval (.tmp 17) = .slice (some ⟨b, off, none⟩) l.length c := hI.val hd 0 17 rfl rfl (by kernel_rfl)
          have e1 : A.eval (.tmp 18) = .int .i64 (k : Int) := hI.val hd 1 18 rfl rfl (by kernel_rfl)
          exact at_op rfl rfl (ixF_op okM rfl e0 e1 (by omega) ⟨_, rfl, rfl, hg⟩)
        rcases ix with _ | ix
        · cases hj
          have e0 : A.eval (.tmp 19) = .pointer (some ⟨b, off + k * 3, none⟩) := hI.val hd 2 19 rfl rfl (by kernel_rfl)
          exact at_op rfl rfl (elF_op okM rfl e0 (hg.sl.range okM (at_some (by omega))) ⟨_, rfl, rfl, hg⟩)
        rcases ix with _ | ix
        · cases hj
          have e0 : A.eval (.tmp 1) = .slice (some ⟨b2, off2, none⟩) l.length c2 := hI.old 1 (by kernel_rfl)
          exact at_op rfl rfl (move_op rfl ⟨_, rfl, e0, hg⟩)
        rcases ix with _ | ix
        · cases hj
          have e0 : A.eval (.tmp 5) = .int .i64 (k : Int) := hI.old 5 (by kernel_rfl)
          exact at_op rfl rfl (move_op rfl ⟨_, rfl, e0, hg⟩)
        rcases ix with _ | ix
        · cases hj
          have e0 : A.eval (.tmp 21) = .slice (some ⟨b2, off2, none⟩) l.length c2 := hI.val hd 4 21 rfl rfl (by kernel_rfl)
          have e1 : A.eval (.tmp 22) = .int .i64 (k : Int) := hI.val hd 5 22 rfl rfl (by kernel_rfl)
          exact at_op rfl rfl (ixF_op okM rfl e0 e1 (by omega) ⟨_, rfl, rfl, hg⟩)
        rcases ix with _ | ix
        · cases hj
          have e0 : A.eval (.tmp 23) = .pointer (some ⟨b2, off2 + k * 3, none⟩) := hI.val hd 6 23 rfl rfl (by kernel_rfl)
          exact at_op rfl rfl (elF_op okM rfl e0 (hg.su.range okM (at_some (by omega))) ⟨_, rfl, rfl, hg⟩)
        rcases ix with _ | ix
        · cases hj
          have e0 : A.eval (.tmp 20) = (M3.at' l k).val := hI.val hd 3 20 rfl rfl (by kernel_rfl)
          have e1 : A.eval (.tmp 24) = (M3.at' l k).val := hI.val hd 7 24 rfl rfl (by kernel_rfl)
          refine at_op rfl rfl (call_op rfl Tryz.func100 (by kernel_rfl) (by kernel_rfl) ?_)
          simp only [List.map_cons, List.map_nil, e0, e1]
          refine (eqMsg_same _ _).mono ?_
          rintro e W1 ⟨rfl, hb⟩
          exact ⟨_, rfl, _, rfl, rfl, hg.below hb⟩
        rcases ix with _ | ix
        · cases hj
          have e0 : A.eval (.tmp 25) = .bool true := hI.val hd 8 25 rfl rfl (by kernel_rfl)
          refine at_op rfl rfl (val_op (v := .bool false) ?_ ⟨_, rfl, rfl, hg⟩)
          unfold execOp
          simp only [List.getElem_toArray, List.getElem_cons_zero, List.getElem_cons_succ, e0]
          simp [go_sem]
        omega
      case done =>
        intro A W hI
        have hg := hI.g
        have s26 : A.tmps.getD 26 undef = .bool false := hI.last 9 26 rfl
        have hA := hI.frame [17, 18, 19, 20, 21, 22, 23, 24, 25, 26] (by kernel_rfl)
        rw [hA]
        simp only [putAll, List.foldl_cons, List.foldl_nil, s26, Act.put, List.setIfInBounds_toArray, List.set_cons_zero, List.set_cons_succ]
        clear hA hI s26
        go_wp2
        go_roundw
        case rel => exact ⟨k + 1, by omega, by go_num, hg⟩
        case measure => simp [intOf]; omega
    · have hbel := hG.bel
      clear hG
      go_wp2
      go_ret
      exact ⟨rfl, hbel⟩
end Go.Proofs.YtghmkacamabndaaGreatDoor.Mem
namespace Go.Proofs.YtghmkacamabndaaGreatDoor.Mem
open Go.ChangeShapes Go.WideShapes Go.RowKit Base Num Slc Slf Rw Tmr Reg Ex

def marks3 (k : Nat) : Nat → List M3
  | 0 => []
  | n + 1 => ⟨(k : Int), ((k + 1 : Nat) : Int), ((k + 2 : Nat) : Int)⟩ :: marks3 (k + 3) n
theorem marks3_length (k n : Nat) : (marks3 k n).length = n := by
  induction n generalizing k with
  | zero => rfl
  | succ n ih => simp [marks3, ih]
theorem marks3_snoc (k n : Nat) : marks3 k (n + 1) = marks3 k n ++ [⟨((k + 3 * n : Nat) : Int), ((k + 3 * n + 1 : Nat) : Int), ((k + 3 * n + 2 : Nat) : Int)⟩] := by
  induction n generalizing k with
  | zero => simp [marks3]
  | succ n ih =>
    have := ih (k + 3)
    rw [marks3, this, marks3]
    simp
    omega
theorem marks3_at (k n j : Nat) (h : j < n) : M3.at' (marks3 k n) j = ⟨((k + 3 * j : Nat) : Int), ((k + 3 * j + 1 : Nat) : Int), ((k + 3 * j + 2 : Nat) : Int)⟩ := by
  unfold M3.at'
  induction n generalizing k j with
  | zero => omega
  | succ n ih =>
    cases j with
    | zero => simp [marks3]
    | succ j =>
      have := ih (k + 3) j (by omega)
      simp only [marks3, List.getD_cons_succ, this]
      simp
      omega
theorem mark3_step (k : Nat) (l : List M3) (j : Nat) (h : j < l.length) : (marks3 k j ++ l.drop j).set j ⟨((k + 3 * j : Nat) : Int), ((k + 3 * j + 1 : Nat) : Int), ((k + 3 * j + 2 : Nat) : Int)⟩ = marks3 k (j + 1) ++ l.drop (j + 1) := by
  rw [marks3_snoc, List.set_append_right _ _ (by rw [marks3_length]; omega), marks3_length, Nat.sub_self, List.drop_eq_getElem_cons h, List.set_cons_zero]
  simp
theorem at_set {l : List M3} {i : Nat} {e : M3} (h : i < l.length) : (l.set i e)[i]? = some e := by simp [h]
theorem markMsgS_any (v : Value) (l : List M3) (w : World) (base k : Nat) (h : OwnF fM base w v l) (hb : l.length ≤ 4000000) (hk : k ≤ 1000000000) :
    Calls Tryz.prog 44 #[v, .int .i64 (k : Int)] w fun e w' => e = .returned (.int .i64 ((k + 3 * l.length : Nat) : Int)) ∧ OwnF fM base w' v (marks3 k l.length) ∧ w.grownBy w' v.ownBlock := by
  have HO : Hid (OwnF fM base w v l) := h
  rcases h.2 with ⟨rfl, h0⟩ | ⟨g, cap, cur, rfl, hbg, hg, hn, hm, hcs, ht⟩
  · have hl : l = [] := List.eq_nil_of_length_eq_zero h0
    subst hl
    go_enter Tryz.func44, Tryz.ntmps44
    go_wp2
    refine wp_loop_rounds 1 ?_
    rw [rounds_succ]
    go_wp2
    go_ret
    exact ⟨rfl, OwnF.nil _ _ _, World.grownBy.refl _ _⟩
  · unfold maxLen at hm
    clear h hg hcs ht cur
    go_enter Tryz.func44, Tryz.ntmps44
    go_wp2_with fail
    go_loopw [1, 5] (fun q i wr => ∃ j : Nat, j ≤ l.length ∧ i = .int .i64 j ∧ q = .int .i64 ((k + 3 * j : Nat) : Int) ∧ OwnF fM base wr (.slice (some ⟨g, 0, none⟩) l.length cap) (marks3 k j ++ l.drop j) ∧ w.grownBy wr (some g)) (fun _ i _ => l.length - (intOf i).toNat)
    case atStart => exact ⟨0, Nat.zero_le _, rfl, rfl, by simpa [marks3] using HO.out, World.grownBy.refl _ _⟩
    case round =>
      obtain ⟨j, hj, rfl, rfl, ho, hgw⟩ := hrel
      obtain ⟨L, HL⟩ : ∃ L, Hid (L = marks3 k j ++ l.drop j) := ⟨_, show _ = _ from rfl⟩
      rw [← HL.out] at ho
      by_cases hlt : j < l.length
      · have hll : j < L.length := by rw [HL.out]; simp [marks3_length]; omega
        have hat := at_some hll
        generalize M3.at' L j = e0 at hat
        obtain ⟨z, hz⟩ : ∃ z, z = k + 3 * j := ⟨_, rfl⟩
        rw [← hz]
        have HZ : Hid (z = k + 3 * j) := hz
        have hzb : z ≤ 1012000000 := by omega
        clear hz
        go_wp2_with (first
          | (refine ixF okM (r := j) rfl rfl rfl rfl hlt ?_)
          | (refine stE okM rfl (e' := ⟨z, e0.k, e0.v⟩) (j := 0) rfl rfl rfl rfl ho hat rfl (by omega) rfl ?_; intro w1 ho1 hg1)
          | (refine stE okM rfl (e' := ⟨z, (z : Int) + 1, e0.v⟩) (j := 1) rfl rfl rfl rfl ho1 (at_set hll) rfl (by omega) rfl ?_; intro w2 ho2 hg2)
          | (refine stE okM rfl (e' := ⟨z, (z : Int) + 1, (z : Int) + 1 + 1⟩) (j := 2) rfl rfl rfl rfl ho2 (at_set (by simpa using hll)) rfl (by omega) rfl ?_; intro w3 ho3 hg3))
        go_roundw
        case rel =>
          refine ⟨j + 1, by omega, by go_num, ?_, ?_, grown_trans (grown_trans (grown_trans hgw hg1) hg2) hg3⟩
          · rw [HZ.out]; go_num
          · rw [← mark3_step k l j hlt, ← HL.out, ← HZ.out]
            have e3 : (⟨z, (z : Int) + 1, (z : Int) + 1 + 1⟩ : M3) = ⟨((z : Nat) : Int), ((z + 1 : Nat) : Int), ((z + 2 : Nat) : Int)⟩ := by simp; omega
            rw [List.set_set, List.set_set, e3] at ho3
            exact ho3
        case measure => simp [intOf]; omega
      · have e : j = l.length := by omega
        subst e
        go_wp2
        go_ret
        exact ⟨rfl, by simpa [HL.out] using ho, hgw⟩
theorem heldMsgS_any (v : Value) (n : Nat) (w : World) (k : Nat) (h : SlF fM w v (marks3 k n)) (hb : n ≤ 4000000) (hk : k ≤ 1000000000) :
    Calls Tryz.prog 104 #[v, .int .i64 (k : Int)] w fun e w' => e = .returned (.int .i64 ((k + 3 * n : Nat) : Int)) ∧ w' = w := by
  have HS : Hid (SlF fM w v (marks3 k n)) := h
  obtain ⟨a, cap, rfl, -, hlc, hcm, -⟩ := h
  unfold maxLen at hcm
  rw [marks3_length] at *
  go_enter Tryz.func104, Tryz.ntmps104
  go_wp2_with fail
  go_loop [1, 5] (fun q i => ∃ j : Nat, j ≤ n ∧ i = .int .i64 j ∧ q = .int .i64 ((k + 3 * j : Nat) : Int)) (fun _ i => n - (intOf i).toNat)
  case atStart => exact ⟨0, Nat.zero_le _, rfl, rfl⟩
  case round =>
    obtain ⟨j, hj, rfl, rfl⟩ := hrel
    by_cases hlt : j < n
    · have hll : j < (marks3 k n).length := by rw [marks3_length]; exact hlt
      obtain ⟨b, off, c, e, -, -, -⟩ := HS.out.shape (by rw [marks3_length]; omega)
      simp only [Value.slice.injEq] at e
      obtain ⟨rfl, -, rfl⟩ := e
      have hc := HS.out
      have c0 := hc.cell okM (at_some hll) (j := 0) (by decide)
      have c1 := hc.cell okM (at_some hll) (j := 1) (by decide)
      have c2 := hc.cell okM (at_some hll) (j := 2) (by decide)
      rw [marks3_at k n j hlt] at c0 c1 c2
      clear hc
      obtain ⟨z, hz⟩ : ∃ z, z = k + 3 * j := ⟨_, rfl⟩
      rw [← hz] at c0 c1 c2 ⊢
      have HZ : Hid (z = k + 3 * j) := hz
      have hzb : z ≤ 1012000000 := by omega
      clear hz
      have d0 : w.cell? ⟨b, off + j * fM.n, none⟩ = some (.int .i64 (z : Int)) := c0
      have d1 : w.cell? ⟨b, off + j * fM.n + 1, none⟩ = some (.int .i64 ((z + 1 : Nat) : Int)) := c1
      have d2 : w.cell? ⟨b, off + j * fM.n + 2, none⟩ = some (.int .i64 ((z + 2 : Nat) : Int)) := c2
      clear c0 c1 c2 hll
      go_wp2_with (refine ixF okM (r := j) rfl rfl rfl rfl hlt ?_)
      go_round
      case rel => exact ⟨j + 1, by omega, by go_num, by rw [HZ.out]; go_num⟩
      case measure => simp [intOf]; omega
    · have e : j = n := by omega
      subst e
      go_wp2
      go_ret
      exact ⟨rfl, rfl⟩
end Go.Proofs.YtghmkacamabndaaGreatDoor.Mem
namespace Go.Proofs.YtghmkacamabndaaGreatDoor.Mem
open Go.ChangeShapes Go.WideShapes Go.RowKit Base Num Slc Slf Rw Tmr Reg Ex

theorem eqEv_same (m : M3) (w : World) : Calls Tryz.prog 149 #[m.val, m.val] w fun e w' => e = .returned (.bool true) ∧ Below w.heap.size w w' := by
  obtain ⟨t, k, v⟩ := m
  have hB : Hid (Below w.heap.size w ((w.alloc (.cells #[.int .i64 t, .int .i64 k, .int .i64 v] 142)).alloc (.cells #[.int .i64 t, .int .i64 k, .int .i64 v] 142))) := ((Below.refl _ w).alloc (Nat.le_refl _) _).alloc (by simp) _
  rw [m3_val]
  go_enter Tryz.func149, Tryz.ntmps149
  go_wp2
  go_ret
  exact ⟨rfl, hB.out⟩
theorem eqEvS_same (v u : Value) (l : List M3) (w : World) (h1 : SlF fE w v l) (h2 : SlF fE w u l) :
    Calls Tryz.prog 96 #[v, u] w fun e w' => e = .returned (.bool true) ∧ Below w.heap.size w w' := by
  have hG : Gii fE w v u l w := ⟨h1, h2, Below.refl _ _⟩
  obtain ⟨a, c, rfl, -, hlc, hcm, -⟩ := h1
  obtain ⟨a2, c2, rfl, -, hlc2, hcm2, -⟩ := h2
  unfold maxLen at hcm hcm2
  have hll : ((l.length : Int) != (l.length : Int)) = false := by simp
  go_enter Tryz.func96, Tryz.ntmps96
  go_wp2_with fail
  go_loopw [5] (fun i wr => ∃ k : Nat, k ≤ l.length ∧ i = .int .i64 k ∧ Gii fE w (.slice a l.length c) (.slice a2 l.length c2) l wr) (fun i _ => l.length - (intOf i).toNat)
  case atStart => exact ⟨0, Nat.zero_le _, rfl, hG⟩
  case round =>
    clear hG
    obtain ⟨k, hk, rfl, hG⟩ := hrel
    by_cases hlt : k < l.length
    · obtain ⟨b, off, c', e, -, -, -⟩ := hG.sl.shape (by omega)
      simp only [Value.slice.injEq] at e
      obtain ⟨rfl, -, rfl⟩ := e
      obtain ⟨b2, off2, c2', e, -, -, -⟩ := hG.su.shape (by omega)
      simp only [Value.slice.injEq] at e
      obtain ⟨rfl, -, rfl⟩ := e
      go_wp2_with fail
      refine region_known (by kernel_rfl) (by kernel_rfl) 0 (by decide) (by kernel_rfl) (fun _ W => Gii fE w (.slice (some ⟨b, off, none⟩) l.length c) (.slice (some ⟨b2, off2, none⟩) l.length c2) l W) [.slice (some ⟨b, off, none⟩) l.length c, .int .i64 (k : Int), .pointer (some ⟨b, off + k * 3, none⟩), (M3.at' l k).val, .slice (some ⟨b2, off2, none⟩) l.length c2, .int .i64 (k : Int), .pointer (some ⟨b2, off2 + k * 3, none⟩), (M3.at' l k).val, .bool true, .bool false] hG.drew ?step ?done
      case step =>
        intro L ix o' A W hj hI hL hd
        have hin : ix < 10 := by
          by_cases hl : ix < 10
          · exact hl
          · simp [hl] at hj
        have hsz : A.tmps.size = 27 := hI.size
        have hg := hI.g
        rcases ix with _ | ix
        · cases hj
          have e0 : A.eval (.tmp 0) = .slice (some ⟨b, off, none⟩) l.length c := hI.old 0 (by kernel_rfl)
          exact at_op rfl rfl (move_op rfl ⟨_, rfl, e0, hg⟩)
        rcases ix with _ | ix
        · cases hj
          have e0 : A.eval (.tmp 5) = .int .i64 (k : Int) := hI.old 5 (by kernel_rfl)
          exact at_op rfl rfl (move_op rfl ⟨_, rfl, e0, hg⟩)
        rcases ix with _ | ix
        · cases hj
          have e0 : A.eval (.tmp 17) = .slice (some ⟨b, off, none⟩) l.length c := hI.val hd 0 17 rfl rfl (by kernel_rfl)
          have e1 : A.eval (.tmp 18) = .int .i64 (k : Int) := hI.val hd 1 18 rfl rfl (by kernel_rfl)
          exact at_op rfl rfl (ixF_op okE rfl e0 e1 (by omega) ⟨_, rfl, rfl, hg⟩)
        rcases ix with _ | ix
        · cases hj
          have e0 : A.eval (.tmp 19) = .pointer (some ⟨b, off + k * 3, none⟩) := hI.val hd 2 19 rfl rfl (by kernel_rfl)
          exact at_op rfl rfl (elF_op okE rfl e0 (hg.sl.range okE (at_some (by omega))) ⟨_, rfl, rfl, hg⟩)
        rcases ix with _ | ix
        · cases hj
          have e0 : A.eval (.tmp 1) = .slice (some ⟨b2, off2, none⟩) l.length c2 := hI.old 1 (by kernel_rfl)
          exact at_op rfl rfl (move_op rfl ⟨_, rfl, e0, hg⟩)
        rcases ix with _ | ix
        · cases hj
          have e0 : A.eval (.tmp 5) = .int .i64 (k : Int) := hI.old 5 (by kernel_rfl)
          exact at_op rfl rfl (move_op rfl ⟨_, rfl, e0, hg⟩)
        rcases ix with _ | ix
        · cases hj
          have e0 : A.eval (.tmp 21) = .slice (some ⟨b2, off2, none⟩) l.length c2 := hI.val hd 4 21 rfl rfl (by kernel_rfl)
          have e1 : A.eval (.tmp 22) = .int .i64 (k : Int) := hI.val hd 5 22 rfl rfl (by kernel_rfl)
          exact at_op rfl rfl (ixF_op okE rfl e0 e1 (by omega) ⟨_, rfl, rfl, hg⟩)
        rcases ix with _ | ix
        · cases hj
          have e0 : A.eval (.tmp 23) = .pointer (some ⟨b2, off2 + k * 3, none⟩) := hI.val hd 6 23 rfl rfl (by kernel_rfl)
          exact at_op rfl rfl (elF_op okE rfl e0 (hg.su.range okE (at_some (by omega))) ⟨_, rfl, rfl, hg⟩)
        rcases ix with _ | ix
        · cases hj
          have e0 : A.eval (.tmp 20) = (M3.at' l k).val := hI.val hd 3 20 rfl rfl (by kernel_rfl)
          have e1 : A.eval (.tmp 24) = (M3.at' l k).val := hI.val hd 7 24 rfl rfl (by kernel_rfl)
          refine at_op rfl rfl (call_op rfl Tryz.func149 (by kernel_rfl) (by kernel_rfl) ?_)
          simp only [List.map_cons, List.map_nil, e0, e1]
          refine (eqEv_same _ _).mono ?_
          rintro e W1 ⟨rfl, hb⟩
          exact ⟨_, rfl, _, rfl, rfl, hg.below hb⟩
        rcases ix with _ | ix
        · cases hj
          have e0 : A.eval (.tmp 25) = .bool true := hI.val hd 8 25 rfl rfl (by kernel_rfl)
          refine at_op rfl rfl (val_op (v := .bool false) ?_ ⟨_, rfl, rfl, hg⟩)
          unfold execOp
          simp only [List.getElem_toArray, List.getElem_cons_zero, List.getElem_cons_succ, e0]
          simp [go_sem]
        omega
      case done =>
        intro A W hI
        have hg := hI.g
        have s26 : A.tmps.getD 26 undef = .bool false := hI.last 9 26 rfl
        have hA := hI.frame [17, 18, 19, 20, 21, 22, 23, 24, 25, 26] (by kernel_rfl)
        rw [hA]
        simp only [putAll, List.foldl_cons, List.foldl_nil, s26, Act.put, List.setIfInBounds_toArray, List.set_cons_zero, List.set_cons_succ]
        clear hA hI s26
        go_wp2
        go_roundw
        case rel => exact ⟨k + 1, by omega, by go_num, hg⟩
        case measure => simp [intOf]; omega
    · have hbel := hG.bel
      clear hG
      go_wp2
      go_ret
      exact ⟨rfl, hbel⟩
theorem markEvS_any (v : Value) (l : List M3) (w : World) (base k : Nat) (h : OwnF fE base w v l) (hb : l.length ≤ 4000000) (hk : k ≤ 1000000000) :
    Calls Tryz.prog 102 #[v, .int .i64 (k : Int)] w fun e w' => e = .returned (.int .i64 ((k + 3 * l.length : Nat) : Int)) ∧ OwnF fE base w' v (marks3 k l.length) ∧ w.grownBy w' v.ownBlock := by
  have HO : Hid (OwnF fE base w v l) := h
  rcases h.2 with ⟨rfl, h0⟩ | ⟨g, cap, cur, rfl, hbg, hg, hn, hm, hcs, ht⟩
  · have hl : l = [] := List.eq_nil_of_length_eq_zero h0
    subst hl
    go_enter Tryz.func102, Tryz.ntmps102
    go_wp2
    refine wp_loop_rounds 1 ?_
    rw [rounds_succ]
    go_wp2
    go_ret
    exact ⟨rfl, OwnF.nil _ _ _, World.grownBy.refl _ _⟩
  · unfold maxLen at hm
    clear h hg hcs ht cur
    go_enter Tryz.func102, Tryz.ntmps102
    go_wp2_with fail
    go_loopw [1, 5] (fun q i wr => ∃ j : Nat, j ≤ l.length ∧ i = .int .i64 j ∧ q = .int .i64 ((k + 3 * j : Nat) : Int) ∧ OwnF fE base wr (.slice (some ⟨g, 0, none⟩) l.length cap) (marks3 k j ++ l.drop j) ∧ w.grownBy wr (some g)) (fun _ i _ => l.length - (intOf i).toNat)
    case atStart => exact ⟨0, Nat.zero_le _, rfl, rfl, by simpa [marks3] using HO.out, World.grownBy.refl _ _⟩
    case round =>
      obtain ⟨j, hj, rfl, rfl, ho, hgw⟩ := hrel
      obtain ⟨L, HL⟩ : ∃ L, Hid (L = marks3 k j ++ l.drop j) := ⟨_, show _ = _ from rfl⟩
      rw [← HL.out] at ho
      by_cases hlt : j < l.length
      · have hll : j < L.length := by rw [HL.out]; simp [marks3_length]; omega
        have hat := at_some hll
        generalize M3.at' L j = e0 at hat
        obtain ⟨z, hz⟩ : ∃ z, z = k + 3 * j := ⟨_, rfl⟩
        rw [← hz]
        have HZ : Hid (z = k + 3 * j) := hz
        have hzb : z ≤ 1012000000 := by omega
        clear hz
        go_wp2_with (first
          | (refine ixF okE (r := j) rfl rfl rfl rfl hlt ?_)
          | (refine stE okE rfl (e' := ⟨z, e0.k, e0.v⟩) (j := 0) rfl rfl rfl rfl ho hat rfl (by omega) rfl ?_; intro w1 ho1 hg1)
          | (refine stE okE rfl (e' := ⟨z, (z : Int) + 1, e0.v⟩) (j := 1) rfl rfl rfl rfl ho1 (at_set hll) rfl (by omega) rfl ?_; intro w2 ho2 hg2)
          | (refine stE okE rfl (e' := ⟨z, (z : Int) + 1, (z : Int) + 1 + 1⟩) (j := 2) rfl rfl rfl rfl ho2 (at_set (by simpa using hll)) rfl (by omega) rfl ?_; intro w3 ho3 hg3))
        go_roundw
        case rel =>
          refine ⟨j + 1, by omega, by go_num, ?_, ?_, grown_trans (grown_trans (grown_trans hgw hg1) hg2) hg3⟩
          · rw [HZ.out]; go_num
          · rw [← mark3_step k l j hlt, ← HL.out, ← HZ.out]
            have e3 : (⟨z, (z : Int) + 1, (z : Int) + 1 + 1⟩ : M3) = ⟨((z : Nat) : Int), ((z + 1 : Nat) : Int), ((z + 2 : Nat) : Int)⟩ := by simp; omega
            rw [List.set_set, List.set_set, e3] at ho3
            exact ho3
        case measure => simp [intOf]; omega
      · have e : j = l.length := by omega
        subst e
        go_wp2
        go_ret
        exact ⟨rfl, by simpa [HL.out] using ho, hgw⟩
theorem heldEvS_any (v : Value) (n : Nat) (w : World) (k : Nat) (h : SlF fE w v (marks3 k n)) (hb : n ≤ 4000000) (hk : k ≤ 1000000000) :
    Calls Tryz.prog 105 #[v, .int .i64 (k : Int)] w fun e w' => e = .returned (.int .i64 ((k + 3 * n : Nat) : Int)) ∧ w' = w := by
  have HS : Hid (SlF fE w v (marks3 k n)) := h
  obtain ⟨a, cap, rfl, -, hlc, hcm, -⟩ := h
  unfold maxLen at hcm
  rw [marks3_length] at *
  go_enter Tryz.func105, Tryz.ntmps105
  go_wp2_with fail
  go_loop [1, 5] (fun q i => ∃ j : Nat, j ≤ n ∧ i = .int .i64 j ∧ q = .int .i64 ((k + 3 * j : Nat) : Int)) (fun _ i => n - (intOf i).toNat)
  case atStart => exact ⟨0, Nat.zero_le _, rfl, rfl⟩
  case round =>
    obtain ⟨j, hj, rfl, rfl⟩ := hrel
    by_cases hlt : j < n
    · have hll : j < (marks3 k n).length := by rw [marks3_length]; exact hlt
      obtain ⟨b, off, c, e, -, -, -⟩ := HS.out.shape (by rw [marks3_length]; omega)
      simp only [Value.slice.injEq] at e
      obtain ⟨rfl, -, rfl⟩ := e
      have hc := HS.out
      have c0 := hc.cell okE (at_some hll) (j := 0) (by decide)
      have c1 := hc.cell okE (at_some hll) (j := 1) (by decide)
      have c2 := hc.cell okE (at_some hll) (j := 2) (by decide)
      rw [marks3_at k n j hlt] at c0 c1 c2
      clear hc
      obtain ⟨z, hz⟩ : ∃ z, z = k + 3 * j := ⟨_, rfl⟩
      rw [← hz] at c0 c1 c2 ⊢
      have HZ : Hid (z = k + 3 * j) := hz
      have hzb : z ≤ 1012000000 := by omega
      clear hz
      have d0 : w.cell? ⟨b, off + j * fE.n, none⟩ = some (.int .i64 (z : Int)) := c0
      have d1 : w.cell? ⟨b, off + j * fE.n + 1, none⟩ = some (.int .i64 ((z + 1 : Nat) : Int)) := c1
      have d2 : w.cell? ⟨b, off + j * fE.n + 2, none⟩ = some (.int .i64 ((z + 2 : Nat) : Int)) := c2
      clear c0 c1 c2 hll
      go_wp2_with (refine ixF okE (r := j) rfl rfl rfl rfl hlt ?_)
      go_round
      case rel => exact ⟨j + 1, by omega, by go_num, by rw [HZ.out]; go_num⟩
      case measure => simp [intOf]; omega
    · have e : j = n := by omega
      subst e
      go_wp2
      go_ret
      exact ⟨rfl, rfl⟩
end Go.Proofs.YtghmkacamabndaaGreatDoor.Mem
namespace Go.Proofs.YtghmkacamabndaaGreatDoor.Rom
open Go.ChangeShapes Go.WideShapes Go.RowKit Base Slc Num

theorem all_take_succ (l : List Int) (k : Nat) (h : k < l.length) : (l.take (k + 1)).all bok = ((l.take k).all bok && bok (l.getD k 0)) := by
  rw [getD_take h]; simp
theorem all_false (l : List Int) (k : Nat) (h : k < l.length) (hb : bok (l.getD k 0) = false) : l.all bok = false := by
  rw [List.all_eq_false]
  refine ⟨l[k], List.getElem_mem h, ?_⟩
  rw [List.getD_eq_getElem?_getD, List.getElem?_eq_getElem h] at hb
  simpa using hb

theorem bytes_spec (a : Option Addr) (len cap : Nat) (l : List Int) (w : World) (hl : IntsAt w a len l) (hm : len ≤ maxLen) :
    Calls Tryz.prog 121 #[.slice a len cap] w fun e w' => e = .returned (.bool (l.all bok)) ∧ w' = w := by
  unfold maxLen at hm
  obtain ⟨hlen, hc⟩ := hl
  go_enter Tryz.func121, Tryz.ntmps121
  go_wp2
  go_loop [3] (fun i => ∃ k : Nat, k ≤ len ∧ i = .int .i64 k ∧ (l.take k).all bok = true) (fun i => len - (intOf i).toNat)
  case atStart => exact ⟨0, Nat.zero_le _, rfl, by simp⟩
  case round =>
    obtain ⟨k, hk, rfl, hall⟩ := hrel
    have HA : Hid ((l.take k).all bok = true) := hall
    clear hall
    by_cases hlt : k < len
    · rcases hc with h0 | ⟨b, off, rfl, hb, hcell⟩
      · omega
      · have hz := hcell k hlt
        clear hcell
        obtain ⟨z, hzz⟩ : ∃ z, z = l.getD k 0 := ⟨_, rfl⟩
        rw [← hzz] at hz
        have HZ : Hid (z = l.getD k 0) := hzz
        clear hzz
        by_cases hbk : bok z = true
        · go_wp2_with (go_at_call 122; refine (byteOk_spec _ _).mono ?_; rintro e w' ⟨rfl, rfl⟩)
          go_round
          case rel => exact ⟨k + 1, by omega, by go_num, by rw [all_take_succ l k (by omega), HA.out, ← HZ.out, hbk]; rfl⟩
          case measure => simp [intOf]; omega
        · have hbk' : bok z = false := by simpa using hbk
          clear hbk
          go_wp2_with (go_at_call 122; refine (byteOk_spec _ _).mono ?_; rintro e w' ⟨rfl, rfl⟩)
          go_ret
          exact ⟨ret_bool (all_false l k (by omega) (by rw [← HZ.out]; exact hbk')).symm, rfl⟩
    · go_wp2
      go_ret
      have e : l.take k = l := List.take_of_length_le (by omega)
      have h := HA.out
      rw [e] at h
      exact ⟨ret_bool h.symm, rfl⟩

theorem bytes_impl (a : Option Addr) (len cap : Nat) (l : List Int) (w : World) (hl : IntsAt w a len l) (hm : len ≤ maxLen) :
    Calls Tryz.prog 74 #[.slice a len cap] w fun e w' => e = .returned (.bool (l.all bok)) ∧ w' = w := by
  unfold maxLen at hm
  obtain ⟨hlen, hc⟩ := hl
  go_enter Tryz.func74, Tryz.ntmps74
  go_wp2
  go_loop [7] (fun i => ∃ k : Nat, k ≤ len ∧ i = .int .i64 k ∧ (l.take k).all bok = true) (fun i => len - (intOf i).toNat)
  case atStart => exact ⟨0, Nat.zero_le _, rfl, by simp⟩
  case round =>
    obtain ⟨k, hk, rfl, hall⟩ := hrel
    have HA : Hid ((l.take k).all bok = true) := hall
    clear hall
    by_cases hlt : k < len
    · rcases hc with h0 | ⟨b, off, rfl, hb, hcell⟩
      · omega
      · have hz := hcell k hlt
        clear hcell
        obtain ⟨z, hzz⟩ : ∃ z, z = l.getD k 0 := ⟨_, rfl⟩
        rw [← hzz] at hz
        have HZ : Hid (z = l.getD k 0) := hzz
        clear hzz
        by_cases hbk : bok z = true
        · go_wp2_with (go_at_call 75; refine (byteOk_impl _ _).mono ?_; rintro e w' ⟨rfl, rfl⟩)
          go_round
          case rel => exact ⟨k + 1, by omega, by go_num, by rw [all_take_succ l k (by omega), HA.out, ← HZ.out, hbk]; rfl⟩
          case measure => simp [intOf]; omega
        · have hbk' : bok z = false := by simpa using hbk
          clear hbk
          go_wp2_with (go_at_call 75; refine (byteOk_impl _ _).mono ?_; rintro e w' ⟨rfl, rfl⟩)
          go_ret
          exact ⟨ret_bool (all_false l k (by omega) (by rw [← HZ.out]; exact hbk')).symm, rfl⟩
    · go_wp2
      go_ret
      have e : l.take k = l := List.take_of_length_le (by omega)
      have h := HA.out
      rw [e] at h
      exact ⟨ret_bool h.symm, rfl⟩

def sumR (n : Int) (l : List Int) : Int := l.foldl (fun s x => (s + x) % 256) n
def chk (l : List Int) : Int := if l.all bok then sumR 25 l else -1
theorem sumR_snoc (n : Int) (l : List Int) (x : Int) : sumR n (l ++ [x]) = (sumR n l + x) % 256 := by simp [sumR]
theorem sumR_ok (n : Int) (l : List Int) (hn : bok n = true) : bok (sumR n l) = true := by
  unfold sumR
  induction l generalizing n with
  | nil => exact hn
  | cons x l ih => exact ih _ (show bok ((n + x) % 256) = true from bok_mk (by omega) (by omega))
theorem all_getD {l : List Int} (h : l.all bok = true) {k : Nat} (hk : k < l.length) : bok (l.getD k 0) = true := by
  rw [List.all_eq_true] at h
  rw [List.getD_eq_getElem?_getD, List.getElem?_eq_getElem hk]
  exact h _ (List.getElem_mem hk)

theorem checkOf_spec (a : Option Addr) (len cap : Nat) (l : List Int) (w : World) (hl : IntsAt w a len l) (hm : len ≤ maxLen) :
    Calls Tryz.prog 80 #[.slice a len cap] w fun e w' => e = .returned (.int .i64 (chk l)) ∧ w' = w := by
  by_cases hall : l.all bok = true
  · have HL : Hid (IntsAt w a len l) := hl
    have HM : Hid (len ≤ maxLen) := hm
    have e1 : chk l = sumR 25 l := by simp [chk, hall]
    have HE : Hid (chk l = sumR 25 l) := e1
    unfold maxLen at hm
    obtain ⟨hlen, hc⟩ := hl
    clear e1
    go_enter Tryz.func80, Tryz.ntmps80
    go_wp2_with (go_at_call 121; refine (bytes_spec _ _ _ _ _ HL.out HM.out).mono ?_; rintro e w' ⟨rfl, rfl⟩)
    go_loop [3, 4] (fun n i => ∃ k : Nat, k ≤ len ∧ i = .int .i64 k ∧ n = .int .i64 (sumR 25 (l.take k))) (fun _ i => len - (intOf i).toNat)
    case atStart => exact ⟨0, Nat.zero_le _, rfl, rfl⟩
    case round =>
      obtain ⟨k, hk, rfl, rfl⟩ := hrel
      obtain ⟨s, hs⟩ : ∃ s, s = sumR 25 (l.take k) := ⟨_, rfl⟩
      have hsb := bok_true (sumR_ok 25 (l.take k) (by decide))
      rw [← hs] at hsb ⊢
      have HS : Hid (s = sumR 25 (l.take k)) := hs
      clear hs
      by_cases hlt : k < len
      · rcases hc with h0 | ⟨b, off, rfl, hb, hcell⟩
        · omega
        · have hz := hcell k hlt
          have hzb := bok_true (all_getD hall (k := k) (by omega))
          clear hcell
          obtain ⟨z, hzz⟩ : ∃ z, z = l.getD k 0 := ⟨_, rfl⟩
          rw [← hzz] at hz hzb
          have HZ : Hid (z = l.getD k 0) := hzz
          clear hzz
          go_wp2
          go_round
          case rel => exact ⟨k + 1, by omega, by go_num, by rw [getD_take (by omega), sumR_snoc, ← HZ.out, ← HS.out]⟩
          case measure => simp [intOf]; omega
      · go_wp2
        go_ret
        exact ⟨ret_int (by rw [HE.out, HS.out, List.take_of_length_le (by omega)]), rfl⟩
  · have hall' : l.all bok = false := by simpa using hall
    have e1 : chk l = -1 := by simp [chk, hall']
    rw [e1]
    go_enter Tryz.func80, Tryz.ntmps80
    go_wp2_with (go_at_call 121; refine (bytes_spec _ _ _ _ _ hl hm).mono ?_; rintro e w' ⟨rfl, rfl⟩)
    go_ret
    exact ⟨rfl, rfl⟩

theorem add_round {s z : Int} (hs : bok s = true) (hz : bok z = true) : addB s z = (s + z) % 256 := by simp [addB, hs, hz]
theorem roundSum_impl (n : Int) (a : Option Addr) (len cap : Nat) (l : List Int) (w : World) (hl : IntsAt w a len l) (hm : len ≤ maxLen) (hall : l.all bok = true) (hn : bok n = true) :
    Calls Tryz.prog 181 #[.int .i64 n, .slice a len cap] w fun e w' => e = .returned (.int .i64 (sumR n l)) ∧ w' = w := by
  unfold maxLen at hm
  obtain ⟨hlen, hc⟩ := hl
  go_enter Tryz.func181, Tryz.ntmps181
  go_wp2
  go_loop [5, 11] (fun s i => ∃ k : Nat, k ≤ len ∧ i = .int .i64 k ∧ s = .int .i64 (sumR n (l.take k))) (fun _ i => len - (intOf i).toNat)
  case atStart => exact ⟨0, Nat.zero_le _, rfl, rfl⟩
  case round =>
    obtain ⟨k, hk, rfl, rfl⟩ := hrel
    obtain ⟨s, hs⟩ : ∃ s, s = sumR n (l.take k) := ⟨_, rfl⟩
    have hsb := sumR_ok n (l.take k) hn
    rw [← hs] at hsb ⊢
    have HS : Hid (s = sumR n (l.take k)) := hs
    clear hs
    by_cases hlt : k < len
    · rcases hc with h0 | ⟨b, off, rfl, hb, hcell⟩
      · omega
      · have hz := hcell k hlt
        have hzb := all_getD hall (k := k) (by omega)
        clear hcell
        obtain ⟨z, hzz⟩ : ∃ z, z = l.getD k 0 := ⟨_, rfl⟩
        rw [← hzz] at hz hzb
        have HZ : Hid (z = l.getD k 0) := hzz
        clear hzz
        go_wp2_with (go_at_call 188; refine (addByte_impl _ _ _).mono ?_; rintro e w' ⟨rfl, rfl⟩)
        go_round
        case rel => exact ⟨k + 1, by omega, by go_num, by rw [getD_take (by omega), sumR_snoc, ← HZ.out, ← HS.out, ← add_round hsb hzb]⟩
        case measure => simp [intOf]; omega
    · go_wp2
      go_ret
      exact ⟨ret_int (by rw [HS.out, List.take_of_length_le (by omega)]), rfl⟩
theorem checkOf_impl (a : Option Addr) (len cap : Nat) (l : List Int) (w : World) (hl : IntsAt w a len l) (hm : len ≤ maxLen) :
    Calls Tryz.prog 139 #[.slice a len cap] w fun e w' => e = .returned (.int .i64 (chk l)) ∧ w' = w := by
  by_cases hall : l.all bok = true
  · have e1 : chk l = sumR 25 l := by simp [chk, hall]
    rw [e1]
    go_enter Tryz.func139, Tryz.ntmps139
    go_wp2_with (first
      | (go_at_call 74; refine (bytes_impl _ _ _ _ _ hl hm).mono ?_; rintro e w' ⟨rfl, rfl⟩)
      | (go_at_call 181; refine (roundSum_impl 25 _ _ _ _ _ hl hm hall (by decide)).mono ?_; rintro e w' ⟨rfl, rfl⟩))
    go_ret
    exact ⟨rfl, rfl⟩
  · have hall' : l.all bok = false := by simpa using hall
    have e1 : chk l = -1 := by simp [chk, hall']
    rw [e1]
    go_enter Tryz.func139, Tryz.ntmps139
    go_wp2_with (go_at_call 74; refine (bytes_impl _ _ _ _ _ hl hm).mono ?_; rintro e w' ⟨rfl, rfl⟩)
    go_ret
    exact ⟨rfl, rfl⟩

def romOk (l : List Int) : Bool := decide (2 ≤ l.length) && decide (l.length ≤ 128) && l.all bok && (l.getD (l.length - 1) 0 == chk (l.take (l.length - 1)))
theorem romOk_short {l : List Int} (h : l.length < 2) : romOk l = false := by unfold romOk; rw [decide_eq_false (by omega)]; rfl
theorem romOk_long {l : List Int} (h : 128 < l.length) : romOk l = false := by unfold romOk; rw [decide_eq_false (p := l.length ≤ 128) (by omega)]; simp
theorem romOk_wrong {l : List Int} (h : l.all bok = false) : romOk l = false := by unfold romOk; rw [h]; simp
theorem romOk_mid {l : List Int} (h2 : 2 ≤ l.length) (h128 : l.length ≤ 128) (h : l.all bok = true) : romOk l = (l.getD (l.length - 1) 0 == chk (l.take (l.length - 1))) := by
  unfold romOk; rw [h, decide_eq_true h2, decide_eq_true h128]; simp
theorem split_last {l : List Int} (h : 0 < l.length) : l.all bok = ((l.take (l.length - 1)).all bok && bok (l.getD (l.length - 1) 0)) := by
  have := all_take_succ l (l.length - 1) (by omega)
  rw [← this, List.take_of_length_le (by omega)]
theorem romOk_last {l : List Int} (h : 0 < l.length) (hb : bok (l.getD (l.length - 1) 0) = false) : romOk l = false := romOk_wrong (by rw [split_last h, hb]; simp)
theorem romOk_last_ok {l : List Int} (h2 : 2 ≤ l.length) (h128 : l.length ≤ 128) (hb : bok (l.getD (l.length - 1) 0) = true) : romOk l = (l.getD (l.length - 1) 0 == chk (l.take (l.length - 1))) := by
  by_cases hall : (l.take (l.length - 1)).all bok = true
  · exact romOk_mid h2 h128 (by rw [split_last (by omega), hall, hb]; rfl)
  · have hall' : (l.take (l.length - 1)).all bok = false := by simpa using hall
    rw [romOk_wrong (by rw [split_last (by omega), hall']; rfl)]
    have e1 : chk (l.take (l.length - 1)) = -1 := by simp [chk, hall']
    have := bok_true hb
    rw [e1, beq_eq_false_iff_ne.mpr (by omega)]

theorem romOk_spec (a : Option Addr) (len cap : Nat) (l : List Int) (w : World) (hl : IntsAt w a len l) (hm : len ≤ cap) (hcm : cap ≤ maxLen) :
    Calls Tryz.prog 81 #[.slice a len cap] w fun e w' => e = .returned (.bool (romOk l)) ∧ ∃ n, w' = w.drewN n := by
  have HL : Hid (IntsAt w a len l) := hl
  have HM : Hid (len ≤ maxLen) := Nat.le_trans hm hcm
  unfold maxLen at hcm
  obtain ⟨hlen, hc⟩ := hl
  by_cases h2 : 2 ≤ len
  · by_cases h128 : len ≤ 128
    · by_cases hall : l.all bok = true
      · rcases hc with h0 | ⟨b, off, rfl, hb, hcell⟩
        · omega
        · obtain ⟨m, hmm⟩ : ∃ m, m = len - 1 := ⟨_, rfl⟩
          have hz := hcell m (by omega)
          clear hcell
          obtain ⟨z, hzz⟩ : ∃ z, z = l.getD m 0 := ⟨_, rfl⟩
          rw [← hzz] at hz
          have HE : Hid (romOk l = (z == chk (l.take m))) := by rw [hzz, hmm, ← hlen]; exact romOk_mid (by omega) (by omega) hall
          clear hzz
          have ht : IntsAt w (some ⟨b, off, none⟩) m (l.take m) := HL.out.take _ (by omega)
          have HT : Hid (IntsAt w (some ⟨b, off, none⟩) m (l.take m)) := ht
          have HTM : Hid (m ≤ maxLen) := by show m ≤ maxLen; unfold maxLen; omega
          have hml : m < len := by omega
          have hmi : (m : Int) < (len : Int) := by omega
          have hmc : m ≤ cap := by omega
          have hwr : IntKind.i64.wrap ((len : Int) - 1) = (m : Int) := by simp [IntKind.wrap, IntKind.bits, IntKind.signed]; omega
          clear ht hlen hmm
          have hd1 : decide ((2 : Int) ≤ (len : Int)) = true := by simp; omega
          have hd2 : decide ((len : Int) ≤ 128) = true := by simp; omega
          go_enter Tryz.func81, Tryz.ntmps81
          go_wp2
          go_quiet ((first | (go_at_call 121; refine Calls.quiet_of_same (bytes_spec _ _ _ l _ HL.out HM.out)) | (go_at_call 80; refine Calls.quiet_of_same (checkOf_spec _ _ _ (l.take m) _ HT.out HTM.out))))
          go_wp2
          go_ret
          exact ⟨ret_bool HE.out.symm, _, rfl⟩
      · have hall' : l.all bok = false := by simpa using hall
        have HE : Hid (romOk l = false) := romOk_wrong hall'
        have hd1 : decide ((2 : Int) ≤ (len : Int)) = true := by simp; omega
        have hd2 : decide ((len : Int) ≤ 128) = true := by simp; omega
        clear hall
        go_enter Tryz.func81, Tryz.ntmps81
        go_wp2
        go_quiet ((go_at_call 121; refine Calls.quiet_of_same (bytes_spec _ _ _ l _ HL.out HM.out)))
        go_wp2
        go_ret
        exact ⟨ret_bool HE.out.symm, _, rfl⟩
    · have HE : Hid (romOk l = false) := romOk_long (by omega)
      have hd1 : decide ((2 : Int) ≤ (len : Int)) = true := by simp; omega
      have hd2 : decide ((len : Int) ≤ 128) = false := by simp; omega
      go_enter Tryz.func81, Tryz.ntmps81
      go_wp2
      go_quiet (fail)
      go_wp2
      go_ret
      exact ⟨ret_bool HE.out.symm, _, rfl⟩
  · have HE : Hid (romOk l = false) := romOk_short (by omega)
    have hd1 : decide ((2 : Int) ≤ (len : Int)) = false := by simp; omega
    go_enter Tryz.func81, Tryz.ntmps81
    go_wp2
    go_quiet (fail)
    go_wp2
    go_ret
    exact ⟨ret_bool HE.out.symm, _, rfl⟩

set_option maxHeartbeats 1000000 in
theorem romOk_impl (a : Option Addr) (len cap : Nat) (l : List Int) (w : World) (hl : IntsAt w a len l) (hm : len ≤ cap) (hcm : cap ≤ maxLen) :
    Calls Tryz.prog 73 #[.slice a len cap] w fun e w' => e = .returned (.bool (romOk l)) ∧ ∃ n, w' = w.drewN n := by
  have HL : Hid (IntsAt w a len l) := hl
  unfold maxLen at hcm
  obtain ⟨hlen, hc⟩ := hl
  by_cases h2 : len < 2
  · have HE : Hid (romOk l = false) := romOk_short (by omega)
    go_enter Tryz.func73, Tryz.ntmps73
    go_wp2
    go_ret
    exact ⟨ret_bool HE.out.symm, 0, rfl⟩
  · by_cases h128 : 128 < len
    · have HE : Hid (romOk l = false) := romOk_long (by omega)
      go_enter Tryz.func73, Tryz.ntmps73
      go_wp2
      go_ret
      exact ⟨ret_bool HE.out.symm, 0, rfl⟩
    · rcases hc with h0 | ⟨b, off, rfl, hb, hcell⟩
      · omega
      · obtain ⟨m, hmm⟩ : ∃ m, m = len - 1 := ⟨_, rfl⟩
        have hz := hcell m (by omega)
        clear hcell
        obtain ⟨z, hzz⟩ : ∃ z, z = l.getD m 0 := ⟨_, rfl⟩
        rw [← hzz] at hz
        have HZ : Hid (z = l.getD m 0) := hzz
        have HE0 : bok z = false → romOk l = false := by rw [hzz, hmm, ← hlen]; exact romOk_last (by omega)
        have HE1 : bok z = true → romOk l = (z == chk (l.take m)) := by rw [hzz, hmm, ← hlen]; exact romOk_last_ok (by omega) (by omega)
        clear hzz
        have ht : IntsAt w (some ⟨b, off, none⟩) m (l.take m) := HL.out.take _ (by omega)
        have HT : Hid (IntsAt w (some ⟨b, off, none⟩) m (l.take m)) := ht
        have HTM : Hid (m ≤ maxLen) := by show m ≤ maxLen; unfold maxLen; omega
        have hml : m < len := by omega
        have hmi : (m : Int) < (len : Int) := by omega
        have hmc : m ≤ cap := by omega
        have hwr : (len : Int) - 1 = (m : Int) := by omega
        clear ht hlen hmm
        by_cases hbz : bok z = true
        · have HE : Hid (romOk l = (z == chk (l.take m))) := HE1 hbz
          clear HE0 HE1
          have hB : ∀ W, Calls Tryz.prog 75 #[.int .i64 z] W fun e w' => e = .returned (.bool true) ∧ w' = W := fun W => by have := byteOk_impl z W; rw [hbz] at this; exact this
          go_enter Tryz.func73, Tryz.ntmps73
          go_wp2
          go_quiet ((first | (go_at_call 75; refine Calls.quiet_of_same (hB _)) | (go_at_call 139; refine Calls.quiet_of_same (checkOf_impl _ _ _ (l.take m) _ HT.out HTM.out))))
          go_wp2
          go_ret
          exact ⟨ret_bool HE.out.symm, _, rfl⟩
        · have hbz' : bok z = false := by simpa using hbz
          have HE : Hid (romOk l = false) := HE0 hbz'
          clear HE0 HE1 hbz
          have hB : ∀ W, Calls Tryz.prog 75 #[.int .i64 z] W fun e w' => e = .returned (.bool false) ∧ w' = W := fun W => by have := byteOk_impl z W; rw [hbz'] at this; exact this
          go_enter Tryz.func73, Tryz.ntmps73
          go_wp2
          go_quiet ((go_at_call 75; refine Calls.quiet_of_same (hB _)))
          go_wp2
          go_ret
          exact ⟨ret_bool HE.out.symm, _, rfl⟩
theorem romOk_specS (v : Value) (l : List Int) (w : World) (h : Sl w v l) :
    Calls Tryz.prog 81 #[v] w fun e w' => e = .returned (.bool (romOk l)) ∧ ∃ n, w' = w.drewN n := by
  obtain ⟨a, cap, rfl, h1, h2, h3, h4⟩ := h
  exact romOk_spec _ _ _ l _ h1 h2 h3
theorem romOk_implS (v : Value) (l : List Int) (w : World) (h : Sl w v l) :
    Calls Tryz.prog 73 #[v] w fun e w' => e = .returned (.bool (romOk l)) ∧ ∃ n, w' = w.drewN n := by
  obtain ⟨a, cap, rfl, h1, h2, h3, h4⟩ := h
  exact romOk_impl _ _ _ l _ h1 h2 h3
end Go.Proofs.YtghmkacamabndaaGreatDoor.Rom
namespace Go.Proofs.YtghmkacamabndaaGreatDoor.RomOf
open Go.ChangeShapes Go.WideShapes Go.RowKit Base Slc Num Rom

theorem copy_spec (v : Value) (l : List Int) (w : World) (h : Sl w v l) (hb : l.length ≤ 17592186044415) :
    Calls Tryz.prog 79 #[v] w fun e w' => ∃ v', e = .returned v' ∧ Own w.heap.size w' v' l ∧ Below w.heap.size w w' := by
  have HO := own_lit w.heap.size w #[] [] rfl (by decide) (Nat.le_refl _)
  have HS := h.below ((Below.refl _ _).alloc (Nat.le_refl _) (.cells #[] 2))
  have HB : Below w.heap.size w (w.alloc (.cells #[] 2)) := (Below.refl _ _).alloc (Nat.le_refl _) _
  go_enter Tryz.func79, Tryz.ntmps79
  go_wp2_with (at_builtin; refine app rfl (.tmp 3) (.tmp 4) rfl w.heap.size [] l HO HS (by simp; omega) (by simp) ?_; intro v' w' ho hg)
  go_ret
  exact ⟨v', rfl, by simpa using ho, HB.grown hg (by simp) (fun k hk => (HO.lt k hk).1)⟩

theorem clone_any (v : Value) (l : List Int) (w : World) (h : Sl w v l) (hb : l.length ≤ 17592186044415) :
    Calls Tryz.prog 146 #[v] w fun e w' => ∃ v', e = .returned v' ∧ Own w.heap.size w' v' l ∧ Below w.heap.size w w' := by
  have HO := own_lit w.heap.size w #[] [] rfl (by decide) (Nat.le_refl _)
  have HS := h.below ((Below.refl _ _).alloc (Nat.le_refl _) (.cells #[] 2))
  have HB : Below w.heap.size w (w.alloc (.cells #[] 2)) := (Below.refl _ _).alloc (Nat.le_refl _) _
  have q : ∀ (w : World) (a : Option Addr) (n c n' c' : Nat), (binOp .eql 24 (.slice a n c) (.slice none n' c')).run Tryz.prog w = .ok (.bool a.isNone) w := fun w a n c n' c' => Lib.run_eql_slice_nil w _ _ a n c n' c' und64
  obtain ⟨a, cap, rfl, hat, hlc, hcm, hnil⟩ := h
  cases a with
  | none =>
    obtain ⟨h0, rfl⟩ := hnil rfl
    have : l = [] := List.eq_nil_of_length_eq_zero h0
    subst this
    go_enter Tryz.func146, Tryz.ntmps146
    go_wp2
    go_ret
    exact ⟨_, rfl, Own.nil _ _, Below.refl _ _⟩
  | some x =>
    go_enter Tryz.func146, Tryz.ntmps146
    go_wp2_with (at_builtin; refine app rfl (.tmp 5) (.tmp 6) rfl w.heap.size [] l HO HS (by simp; omega) (by simp) ?_; intro v' w' ho hg)
    go_ret
    exact ⟨v', rfl, by simpa using ho, HB.grown hg (by simp) (fun k hk => (HO.lt k hk).1)⟩

end Go.Proofs.YtghmkacamabndaaGreatDoor.RomOf
namespace Go.Proofs.YtghmkacamabndaaGreatDoor.Srl
open Go.ChangeShapes Go.WideShapes Go.RowKit Base Num Slc Rw Reg Tmr

structure Sr where
  d : Int
  b : Bool
  l : Bool
  n : Int
  x : Int
  t : Bool
def Sr.val (s : Sr) : Value := .agg #[.int .i64 s.d, .bool s.b, .bool s.l, .int .i64 s.n, .int .i64 s.x, .bool s.t]
def Sr.nul : Sr := ⟨0, false, false, 0, 0, false⟩
def Sr.ok (s : Sr) : Bool := bok s.d && clk s.x && (s.b || !s.l) && (s.l || !s.t) && (if s.b then inn s.n 1 8 && (s.x == 0 || (s.l && !s.t)) else s.n == 0 && s.x == 0)
def Sr.starts (s : Sr) (lead : Bool) (now : Int) : Bool := s.ok && inn now 0 (if lead then 999999968 else 1000000000)
def Sr.start (s : Sr) (lead : Bool) (now : Int) : Sr := if s.starts lead now then ⟨s.d, true, lead, 8, if lead then now + 32 else 0, false⟩ else Sr.nul
def Sr.send (s : Sr) (upto : Int) : Sr × Int × Int :=
  if s.ok then (if 0 < s.x ∧ s.x ≤ upto then (⟨s.d, s.b, s.l, s.n, 0, true⟩, s.x, s.d / 128) else (s, -1, 0)) else (Sr.nul, -1, 0)
def Sr.shift (s : Sr) (bit : Int) : Sr := ⟨2 * s.d % 256 + bit, s.b, s.l, s.n - 1, s.x, s.t⟩
def Sr.beat (s : Sr) (bit : Int) : Sr × Int × Bool :=
  if s.ok && inn bit 0 1 then (if s.b && !s.l then (⟨2 * s.d % 256 + bit, decide (s.n ≠ 1), s.l, s.n - 1, s.x, s.t⟩, s.d / 128, decide (s.n = 1)) else (s, 1, false)) else (Sr.nul, 0, false)
def Sr.answer (s : Sr) (bit at_ : Int) : Sr × Bool :=
  if s.ok && inn bit 0 1 && inn at_ 0 999999968 then
    (if s.t then (if s.n = 1 then (⟨2 * s.d % 256 + bit, false, false, 0, s.x, false⟩, true) else (⟨2 * s.d % 256 + bit, s.b, s.l, s.n - 1, at_ + 32, false⟩, false)) else (s, false)) else (Sr.nul, false)

theorem und_sr : Tryz.prog.underlying 28 = some (.struct #[{ name := "Data", type := 2, offset := 0, embedded := false, tag := "", pkgPath := "", byteOffset := 0 }, { name := "Busy", type := 4, offset := 1, embedded := false, tag := "", pkgPath := "", byteOffset := 8 }, { name := "Lead", type := 4, offset := 2, embedded := false, tag := "", pkgPath := "", byteOffset := 9 }, { name := "Left", type := 2, offset := 3, embedded := false, tag := "", pkgPath := "", byteOffset := 16 }, { name := "NextAt", type := 2, offset := 4, embedded := false, tag := "", pkgPath := "", byteOffset := 24 }, { name := "Wait", type := 4, offset := 5, embedded := false, tag := "", pkgPath := "", byteOffset := 32 }]) := by kernel_rfl
theorem info_sr : (Tryz.prog.info? 28).map (·.size) = some 6 := by kernel_rfl
section
variable {ops : Array Oper} {rest : List Oper} {o : Oper} {a : Act} {w : World} {Q : Exit → Act → World → Prop} {x y : Operand} {g : Nat} {d n q : Int} {b l t : Bool} {T : TypeId} {old : Array Value}
theorem st_sr (hgd : o.guard = none) (ho : o.op = .store 28 x y) (hx : a.eval x = .pointer (some ⟨g, 0, none⟩)) (hy : a.eval y = .agg #[.int .i64 d, .bool b, .bool l, .int .i64 n, .int .i64 q, .bool t]) (hr : Row w g old T) (hold : old.size = 6)
    (h : ∀ w', Row w' g #[.int .i64 d, .bool b, .bool l, .int .i64 n, .int .i64 q, .bool t] T → Onto g w w' → w'.heap.size = w.heap.size → wpList Tryz.prog ops Q rest (a.put o.dst undef) w') : wpList Tryz.prog ops Q (o :: rest) a w :=
  st_row hgd _ x y ho hx hy hr info_sr hold (by simp [Value.oneCell']) h
end
theorem quo_pos' {a r : Int} (ha : 0 ≤ a) : a.tdiv r = a / r := Int.tdiv_eq_ediv_of_nonneg ha
theorem rem_pos' {a r : Int} (ha : 0 ≤ a) : a.tmod r = a % r := Int.tmod_eq_emod_of_nonneg ha
theorem Sr.eta (s : Sr) : s.val = .agg #[.int .i64 s.d, .bool s.b, .bool s.l, .int .i64 s.n, .int .i64 s.x, .bool s.t] := rfl

theorem l5Clock_any (n : Int) (w : World) :
    Calls Tryz.prog 170 #[.int .i64 n] w fun e w' => e = .returned (.bool (clk n)) ∧ w' = w := by
  go_enter Tryz.func170, Tryz.ntmps170
  go_wp2_with (go_at_call 123; refine (in_any _ _ _ _).mono ?_; rintro e w1 ⟨rfl, rfl⟩)
  go_ret
  exact ⟨rfl, rfl⟩
set_option maxHeartbeats 4000000 in
theorem serialOk_spec (s : Sr) (w : World) :
    Calls Tryz.prog 125 #[s.val] w fun e w' => e = .returned (.bool s.ok) ∧ Below w.heap.size w w' := by
  obtain ⟨d, b, l, n, x, t⟩ := s
  show Calls Tryz.prog 125 #[.agg #[.int .i64 d, .bool b, .bool l, .int .i64 n, .int .i64 x, .bool t]] w _
  have k0 : clk 0 = true := by decide
  cases b <;> cases l <;> cases t
  all_goals
    go_enter Tryz.func125, Tryz.ntmps125
    go_wp2_with (first
      | (go_at_call 122; refine (byteOk_spec _ _).mono ?_; rintro e w1 ⟨rfl, rfl⟩; generalize hb : bok _ = r; cases r)
      | (go_at_call 170; refine (l5Clock_any _ _).mono ?_; rintro e w1 ⟨rfl, rfl⟩; generalize hk : clk _ = r; cases r)
      | (go_at_call 123; refine (in_any _ _ _ _).mono ?_; rintro e w1 ⟨rfl, rfl⟩; generalize hi : inn _ _ _ = r; cases r))
    all_goals go_ret
    all_goals exact ⟨ret_bool (by simp [Sr.ok, *]), (Below.refl _ _).alloc (Nat.le_refl _) _⟩
theorem Sr.start_no {s : Sr} {lead : Bool} {now : Int} (h : s.starts lead now = false) : s.start lead now = Sr.nul := by simp [Sr.start, h]
theorem Sr.ok_true {s : Sr} (h : s.ok = true) : (0 ≤ s.d ∧ s.d ≤ 255) ∧ (0 ≤ s.x ∧ s.x ≤ 1000000000) := by
  simp only [Sr.ok, Bool.and_eq_true] at h
  exact ⟨bok_true h.1.1.1.1, clk_true h.1.1.1.2⟩
set_option maxHeartbeats 4000000 in
theorem serialStart_spec (s : Sr) (lead : Bool) (now : Int) (w : World) :
    Calls Tryz.prog 182 #[s.val, .bool lead, .int .i64 now] w fun e w' => e = .returned (s.start lead now).val ∧ Below w.heap.size w w' := by
  rw [Sr.eta s]
  cases hst : s.starts lead now
  · rw [Sr.start_no hst]
    cases hok : s.ok
    · go_enter Tryz.func182, Tryz.ntmps182
      go_wp2_with (first
        | (go_at_call 125; refine (serialOk_spec s _).mono ?_; rintro e w1 ⟨rfl, hb⟩; rw [hok]; obtain ⟨r1, r2, hB⟩ := box2 hb)
        | (refine st_sr rfl rfl rfl rfl r2 rfl ?_; intro w2 r3 ho2 hs2))
      refine ret_row rfl rfl r3 und_sr rfl info_sr rfl ?_
      exact ⟨rfl, below_onto hB ho2 (by omega)⟩
    · have hi : inn now 0 (if lead then 999999968 else 1000000000) = false := by simpa [Sr.starts, hok] using hst
      have hi' := inn_false hi
      cases lead
      · simp at hi'
        by_cases h0 : now < 0
        · go_enter Tryz.func182, Tryz.ntmps182
          go_wp2_with (first
            | (go_at_call 125; refine (serialOk_spec s _).mono ?_; rintro e w1 ⟨rfl, hb⟩; rw [hok]; obtain ⟨r1, r2, hB⟩ := box2 hb)
            | (refine st_sr rfl rfl rfl rfl r2 rfl ?_; intro w2 r3 ho2 hs2))
          refine ret_row rfl rfl r3 und_sr rfl info_sr rfl ?_
          exact ⟨rfl, below_onto hB ho2 (by omega)⟩
        · have h1 : 1000000000 < now := by omega
          have h2 : 999999968 < now := by omega
          go_enter Tryz.func182, Tryz.ntmps182
          go_wp2_with (first
            | (go_at_call 125; refine (serialOk_spec s _).mono ?_; rintro e w1 ⟨rfl, hb⟩; rw [hok]; obtain ⟨r1, r2, hB⟩ := box2 hb)
            | (refine st_sr rfl rfl rfl rfl r2 rfl ?_; intro w2 r3 ho2 hs2))
          refine ret_row rfl rfl r3 und_sr rfl info_sr rfl ?_
          exact ⟨rfl, below_onto hB ho2 (by omega)⟩
      · simp at hi'
        by_cases h0 : now < 0
        · go_enter Tryz.func182, Tryz.ntmps182
          go_wp2_with (first
            | (go_at_call 125; refine (serialOk_spec s _).mono ?_; rintro e w1 ⟨rfl, hb⟩; rw [hok]; obtain ⟨r1, r2, hB⟩ := box2 hb)
            | (refine st_sr rfl rfl rfl rfl r2 rfl ?_; intro w2 r3 ho2 hs2))
          refine ret_row rfl rfl r3 und_sr rfl info_sr rfl ?_
          exact ⟨rfl, below_onto hB ho2 (by omega)⟩
        · have h2 : 999999968 < now := by omega
          go_enter Tryz.func182, Tryz.ntmps182
          go_wp2_with (first
            | (go_at_call 125; refine (serialOk_spec s _).mono ?_; rintro e w1 ⟨rfl, hb⟩; rw [hok]; obtain ⟨r1, r2, hB⟩ := box2 hb)
            | (refine st_sr rfl rfl rfl rfl r2 rfl ?_; intro w2 r3 ho2 hs2))
          refine ret_row rfl rfl r3 und_sr rfl info_sr rfl ?_
          exact ⟨rfl, below_onto hB ho2 (by omega)⟩
  · obtain ⟨hok, hi⟩ : s.ok = true ∧ inn now 0 (if lead then 999999968 else 1000000000) = true := by simpa [Sr.starts] using hst
    have hi' := inn_true hi
    have e : s.start lead now = ⟨s.d, true, lead, 8, if lead then now + 32 else 0, false⟩ := by simp [Sr.start, hst]
    rw [e]
    cases lead
    · simp at hi'
      go_enter Tryz.func182, Tryz.ntmps182
      go_wp2_with (first
        | (go_at_call 125; refine (serialOk_spec s _).mono ?_; rintro e w1 ⟨rfl, hb⟩; rw [hok]; obtain ⟨r1, r2, hB⟩ := box2 hb; have c1 := r1.cell)
        | (refine st_sr rfl rfl rfl rfl (r2.alloc _) rfl ?_; intro w2 r3 ho2 hs2))
      all_goals refine ret_row rfl rfl r3 und_sr rfl info_sr rfl ?_
      all_goals exact ⟨rfl, below_onto (hB.alloc hB.size _) ho2 (by omega)⟩
    · simp at hi'
      go_enter Tryz.func182, Tryz.ntmps182
      go_wp2_with (first
        | (go_at_call 125; refine (serialOk_spec s _).mono ?_; rintro e w1 ⟨rfl, hb⟩; rw [hok]; obtain ⟨r1, r2, hB⟩ := box2 hb; have c1 := r1.cell)
        | (refine st_sr rfl rfl rfl rfl (r2.alloc _) rfl ?_; intro w2 r3 ho2 hs2))
      all_goals refine ret_row rfl rfl r3 und_sr rfl info_sr rfl ?_
      all_goals exact ⟨rfl, below_onto (hB.alloc hB.size _) ho2 (by omega)⟩
end Go.Proofs.YtghmkacamabndaaGreatDoor.Srl
namespace Go.Proofs.YtghmkacamabndaaGreatDoor.Srl
open Go.ChangeShapes Go.WideShapes Go.RowKit Base Num Slc Rw Reg Tmr

theorem top_any (d : Int) (w : World) (h : 0 ≤ d ∧ d ≤ 255) :
    Calls Tryz.prog 243 #[.int .i64 d] w fun e w' => e = .returned (.int .i64 (d / 128)) ∧ w' = w := by
  have q := quo_pos' (a := d) (r := 128) h.1
  go_enter Tryz.func243, Tryz.ntmps243
  go_wp2
  go_ret
  exact ⟨rfl, rfl⟩
theorem shift_any (s : Sr) (bit : Int) (w : World) (hd : 0 ≤ s.d ∧ s.d ≤ 255) (hb : 0 ≤ bit ∧ bit ≤ 1) (hn : 1 ≤ s.n ∧ s.n ≤ 8) :
    Calls Tryz.prog 259 #[s.val, .int .i64 bit] w fun e w' => e = .returned (s.shift bit).val ∧ Below w.heap.size w w' := by
  have q := rem_pos' (a := 2 * s.d) (r := 256) (by omega)
  rw [Sr.eta s]
  go_enter Tryz.func259, Tryz.ntmps259
  go_wp2
  refine ret_row rfl rfl (Row.new1 (w := w.alloc _) (n := w.heap.size + 1) (by simp) #[.int .i64 (2 * s.d % 256 + bit), .bool s.b, .bool s.l, .int .i64 (s.n - 1), .int .i64 s.x, .bool s.t] 28) und_sr rfl info_sr rfl ?_
  exact ⟨rfl, ((Below.refl _ _).alloc (Nat.le_refl _) _).alloc (by simp) _⟩
theorem toSerial_any (s : Sr) (w : World) :
    Calls Tryz.prog 94 #[s.val] w fun e w' => e = .returned s.val ∧ Below w.heap.size w w' := by
  rw [Sr.eta s]
  go_enter Tryz.func94, Tryz.ntmps94
  go_wp2
  refine ret_row rfl rfl ((Row.new1 (w := w.alloc _) (n := w.heap.size + 1) (by simp) #[.int .i64 s.d, .bool s.b, .bool s.l, .int .i64 s.n, .int .i64 s.x, .bool s.t] 28).alloc _) und_sr rfl info_sr rfl ?_
  exact ⟨rfl, (((Below.refl _ _).alloc (Nat.le_refl _) _).alloc (by simp) _).alloc (by simp; omega) _⟩
theorem eqSerial_same (s : Sr) (w : World) :
    Calls Tryz.prog 99 #[s.val, s.val] w fun e w' => e = .returned (.bool true) ∧ Below w.heap.size w w' := by
  rw [Sr.eta s]
  go_enter Tryz.func99, Tryz.ntmps99
  go_wp2
  go_ret
  exact ⟨rfl, ((Below.refl _ _).alloc (Nat.le_refl _) _).alloc (by simp) _⟩
theorem Sr.ok_busy {s : Sr} (h : s.ok = true) (hb : s.b = true) : 1 ≤ s.n ∧ s.n ≤ 8 := by
  simp only [Sr.ok, hb, if_true, Bool.and_eq_true] at h
  exact inn_true h.2.1
theorem Sr.ok_wait {s : Sr} (h : s.ok = true) (ht : s.t = true) : s.l = true ∧ s.b = true ∧ s.x = 0 := by
  obtain ⟨d, b, l, n, x, t⟩ := s
  simp only at ht
  subst ht
  cases b <;> cases l <;> simp [Sr.ok] at h ⊢
  exact h.2.2
set_option maxHeartbeats 4000000 in
theorem serialAnswer_spec (s : Sr) (bit at_ : Int) (w : World) :
    Calls Tryz.prog 241 #[s.val, .int .i64 bit, .int .i64 at_] w fun e w' => e = .returned (.tuple #[(s.answer bit at_).1.val, .bool (s.answer bit at_).2]) ∧ Below w.heap.size w w' := by
  cases hok : s.ok
  · have e : s.answer bit at_ = (Sr.nul, false) := by simp [Sr.answer, hok]
    rw [e, Sr.eta s]
    go_enter Tryz.func241, Tryz.ntmps241
    go_wp2_with (first
      | (go_at_call 125; refine (serialOk_spec s _).mono ?_; rintro e w1 ⟨rfl, hb⟩; rw [hok]; obtain ⟨r1, r2, hB⟩ := box2 hb)
      | (refine st_sr rfl rfl rfl rfl r2 rfl ?_; intro w2 r3 ho2 hs2))
    refine ret_row_tmp rfl rfl r3 und_sr rfl info_sr rfl rfl ?_
    exact ⟨rfl, below_onto hB ho2 (by omega)⟩
  cases hbit : inn bit 0 1
  · have e : s.answer bit at_ = (Sr.nul, false) := by simp [Sr.answer, hbit]
    rw [e, Sr.eta s]
    go_enter Tryz.func241, Tryz.ntmps241
    go_wp2_with (first
      | (go_at_call 125; refine (serialOk_spec s _).mono ?_; rintro e w1 ⟨rfl, hb⟩; rw [hok]; obtain ⟨r1, r2, hB⟩ := box2 hb)
      | (go_at_call 123; refine (in_any _ _ _ _).mono ?_; rintro e w1 ⟨rfl, rfl⟩; rw [hbit])
      | (refine st_sr rfl rfl rfl rfl r2 rfl ?_; intro w2 r3 ho2 hs2))
    refine ret_row_tmp rfl rfl r3 und_sr rfl info_sr rfl rfl ?_
    exact ⟨rfl, below_onto hB ho2 (by omega)⟩
  cases hat : inn at_ 0 999999968
  · have e : s.answer bit at_ = (Sr.nul, false) := by simp [Sr.answer, hat]
    rw [e, Sr.eta s]
    go_enter Tryz.func241, Tryz.ntmps241
    go_wp2_with (first
      | (go_at_call 125; refine (serialOk_spec s _).mono ?_; rintro e w1 ⟨rfl, hb⟩; rw [hok]; obtain ⟨r1, r2, hB⟩ := box2 hb)
      | (go_at_call 123; refine (in_any _ _ _ _).mono ?_; rintro e w1 ⟨rfl, rfl⟩; first | rw [hbit] | rw [hat])
      | (refine st_sr rfl rfl rfl rfl r2 rfl ?_; intro w2 r3 ho2 hs2))
    refine ret_row_tmp rfl rfl r3 und_sr rfl info_sr rfl rfl ?_
    exact ⟨rfl, below_onto hB ho2 (by omega)⟩
  have ha' := inn_true hat
  have hb' := inn_true hbit
  cases ht : s.t
  · have e : s.answer bit at_ = (s, false) := by simp [Sr.answer, hok, hbit, hat, ht]
    rw [e, Sr.eta s, ht]
    go_enter Tryz.func241, Tryz.ntmps241
    go_wp2_with (first
      | (go_at_call 125; rw [← ht]; refine (serialOk_spec s _).mono ?_; rintro e w1 ⟨rfl, hb⟩; rw [hok]; obtain ⟨r1, r2, hB⟩ := box2 hb; have c1 := r1.cell; rw [ht] at c1)
      | (go_at_call 123; refine (in_any _ _ _ _).mono ?_; rintro e w1 ⟨rfl, rfl⟩; first | rw [hbit] | rw [hat])
      | (refine st_sr rfl rfl rfl rfl r2 rfl ?_; intro w2 r3 ho2 hs2))
    refine ret_row_tmp rfl rfl r3 und_sr rfl info_sr rfl rfl ?_
    exact ⟨rfl, below_onto hB ho2 (by omega)⟩
  · obtain ⟨hl, hbu, hx⟩ := Sr.ok_wait hok ht
    have hn := Sr.ok_busy hok hbu
    have hd := (Sr.ok_true hok).1
    obtain ⟨d, b, l, n, x, t⟩ := s
    simp only at ht hl hbu hx hn hd
    subst ht hl hbu hx
    have hs2 : (Sr.mk d true true n 0 true).shift bit = ⟨2 * d % 256 + bit, true, true, n - 1, 0, true⟩ := rfl
    by_cases h1 : n = 1
    · subst h1
      have e : (Sr.mk d true true 1 0 true).answer bit at_ = (⟨2 * d % 256 + bit, false, false, 0, 0, false⟩, true) := by simp [Sr.answer, hok, hbit, hat]
      rw [e, Sr.eta]
      go_enter Tryz.func241, Tryz.ntmps241
      go_wp2_with (first
        | (go_at_call 125; refine (serialOk_spec ⟨d, true, true, 1, 0, true⟩ _).mono ?_; rintro e w1 ⟨rfl, hb⟩; rw [hok]; obtain ⟨r1, r2, hB⟩ := box2 hb; have c1 := r1.cell)
        | (go_at_call 123; refine (in_any _ _ _ _).mono ?_; rintro e w1 ⟨rfl, rfl⟩; first | rw [hbit] | rw [hat])
        | (go_at_call 259; refine (shift_any ⟨d, true, true, 1, 0, true⟩ _ _ hd hb' (by simp)).mono ?_; rw [hs2]; rintro e w3 ⟨rfl, hb3⟩; replace r2 := r2.below hb3; replace hB := hB.trans (hb3.mono hB.size); rw [Sr.eta])
        | (refine st_sr rfl rfl rfl rfl (r2.alloc _) rfl ?_; intro w2 r3 ho2 hs2))
      refine ret_row_tmp rfl rfl r3 und_sr rfl info_sr rfl rfl ?_
      exact ⟨rfl, below_onto (hB.alloc hB.size _) ho2 (by omega)⟩
    · have e : (Sr.mk d true true n 0 true).answer bit at_ = (⟨2 * d % 256 + bit, true, true, n - 1, at_ + 32, false⟩, false) := by simp [Sr.answer, hok, hbit, hat, h1]
      have h0 : ¬ n - 1 = 0 := by omega
      rw [e, Sr.eta]
      go_enter Tryz.func241, Tryz.ntmps241
      go_wp2_with (first
        | (go_at_call 125; refine (serialOk_spec ⟨d, true, true, n, 0, true⟩ _).mono ?_; rintro e w1 ⟨rfl, hb⟩; rw [hok]; obtain ⟨r1, r2, hB⟩ := box2 hb; have c1 := r1.cell)
        | (go_at_call 123; refine (in_any _ _ _ _).mono ?_; rintro e w1 ⟨rfl, rfl⟩; first | rw [hbit] | rw [hat])
        | (go_at_call 259; refine (shift_any ⟨d, true, true, n, 0, true⟩ _ _ hd hb' hn).mono ?_; rw [hs2]; rintro e w3 ⟨rfl, hb3⟩; replace r2 := r2.below hb3; replace hB := hB.trans (hb3.mono hB.size); rw [Sr.eta])
        | (refine st_sr rfl rfl rfl rfl (r2.alloc _) rfl ?_; intro w2 r3 ho2 hs2))
      refine ret_row_tmp rfl rfl r3 und_sr rfl info_sr rfl rfl ?_
      exact ⟨rfl, below_onto (hB.alloc hB.size _) ho2 (by omega)⟩
end Go.Proofs.YtghmkacamabndaaGreatDoor.Srl
namespace Go.Proofs.YtghmkacamabndaaGreatDoor.Srl
open Go.ChangeShapes Go.WideShapes Go.RowKit Base Num Slc Rw Reg Tmr

structure Gs (w : World) (b2 b4 b7 : Nat) (s o : Sr) (W : World) : Prop where
  r2 : Row W b2 #[.int .i64 s.d, .bool s.b, .bool s.l, .int .i64 s.n, .int .i64 s.x, .bool s.t] 28
  r7 : Row W b7 #[.int .i64 o.d, .bool o.b, .bool o.l, .int .i64 o.n, .int .i64 o.x, .bool o.t] 28
  r4 : ∃ cs : Array Value, cs.size = 6 ∧ Row W b4 cs 28
  bel : Below w.heap.size w W
theorem Gs.drew {w W : World} {b2 b4 b7 : Nat} {s o : Sr} (h : Gs w b2 b4 b7 s o W) : Gs w b2 b4 b7 s o W.drew := ⟨h.r2.drewN 1, h.r7.drewN 1, h.r4.imp fun _ ⟨e, r⟩ => ⟨e, r.drewN 1⟩, h.bel.drew⟩
theorem row_set {W : World} {b : Nat} (cs : Array Value) : Onto b W (W.setRow b cs) := ⟨rfl, rfl, rfl, by simp, fun k hk _ => setRow_other W _ k _ hk⟩
theorem Gs.store {w W : World} {b2 b4 b7 : Nat} {s o : Sr} (h : Gs w b2 b4 b7 s o W) (h2 : b2 ≠ b4) (h7 : b7 ≠ b4) (hw : w.heap.size ≤ b4) (cs : Array Value) (hcs : cs.size = 6) : Gs w b2 b4 b7 s o (W.setRow b4 cs) := by
  obtain ⟨old, e, r⟩ := h.r4
  exact ⟨h.r2.onto (row_set cs) h2, h.r7.onto (row_set cs) h7, ⟨cs, hcs, Row.of (setRow_heap W _ _ _ _ _ r.row)⟩, below_onto h.bel (row_set cs) hw⟩
set_option maxHeartbeats 4000000 in
theorem serialSends_spec (s : Sr) (upto : Int) (w : World) :
    Calls Tryz.prog 178 #[s.val, .int .i64 upto] w fun e w' => e = .returned (.tuple #[(s.send upto).1.val, .int .i64 (s.send upto).2.1, .int .i64 (s.send upto).2.2]) ∧ Below w.heap.size w w' := by
  cases hok : s.ok
  · have e : s.send upto = (Sr.nul, -1, 0) := by simp [Sr.send, hok]
    rw [e, Sr.eta s]
    go_enter Tryz.func178, Tryz.ntmps178
    go_wp2_with (first
      | (go_at_call 125; refine (serialOk_spec s _).mono ?_; rintro e w1 ⟨rfl, hb⟩; rw [hok]; obtain ⟨r1, r2, hB⟩ := box2 hb; have c1 := r1.cell; have l1 := r1.lt; have l2 := r2.lt)
      | (refine st_sr rfl rfl rfl rfl r2 rfl ?_; intro w2 r3 ho2 hs2))
    refine ret_row_tmp2 rfl rfl r3 und_sr rfl info_sr rfl rfl rfl ?_
    exact ⟨rfl, below_onto hB ho2 (by omega)⟩
  obtain ⟨hd, hx⟩ := Sr.ok_true hok
  by_cases h0 : s.x = 0
  · have e : s.send upto = (s, -1, 0) := by simp [Sr.send, hok, h0]
    obtain ⟨d, b, l, n, x, t⟩ := s
    simp only at h0
    subst h0
    rw [e, Sr.eta]
    go_enter Tryz.func178, Tryz.ntmps178
    go_wp2_with (first
      | (go_at_call 125; refine (serialOk_spec ⟨d, b, l, n, 0, t⟩ _).mono ?_; rintro e w1 ⟨rfl, hb⟩; rw [hok]; obtain ⟨r1, r2, hB⟩ := box2 hb; have c1 := r1.cell; have l1 := r1.lt; have l2 := r2.lt)
      | (refine st_sr rfl rfl rfl rfl r2 rfl ?_; intro w2 r3 ho2 hs2))
    refine ret_row_tmp2 rfl rfl r3 und_sr rfl info_sr rfl rfl rfl ?_
    exact ⟨rfl, below_onto hB ho2 (by omega)⟩
  by_cases h1 : upto < s.x
  · have e : s.send upto = (s, -1, 0) := by simp [Sr.send, hok]; omega
    rw [e, Sr.eta s]
    go_enter Tryz.func178, Tryz.ntmps178
    go_wp2_with (first
      | (go_at_call 125; refine (serialOk_spec s _).mono ?_; rintro e w1 ⟨rfl, hb⟩; rw [hok]; obtain ⟨r1, r2, hB⟩ := box2 hb; have c1 := r1.cell; have l1 := r1.lt; have l2 := r2.lt)
      | (refine st_sr rfl rfl rfl rfl r2 rfl ?_; intro w2 r3 ho2 hs2))
    refine ret_row_tmp2 rfl rfl r3 und_sr rfl info_sr rfl rfl rfl ?_
    exact ⟨rfl, below_onto hB ho2 (by omega)⟩
  · have e : s.send upto = (⟨s.d, s.b, s.l, s.n, 0, true⟩, s.x, s.d / 128) := by
      have : 0 < s.x ∧ s.x ≤ upto := by omega
      simp [Sr.send, hok, this]
    rw [e, Sr.eta s]
    generalize ho : (⟨s.d, s.b, s.l, s.n, 0, true⟩ : Sr) = out
    have hq0 : (s.x == 0) = false := by simpa using h0
    have hq1 : decide (upto < s.x) = false := by simpa using h1
    go_enter Tryz.func178, Tryz.ntmps178
    go_wp2_with (go_at_call 125; refine (serialOk_spec s _).mono ?_; rintro e w1 ⟨rfl, hb⟩; rw [hok]; obtain ⟨r1, r2, hB⟩ := box2 hb; have c1 := r1.cell; have l1 := r1.lt; have l2 := r2.lt)
    have r7 : Row (w1.alloc (.cells #[.int .i64 s.d, .bool s.b, .bool s.l, .int .i64 s.n, .int .i64 0, .bool true] 28)) w1.heap.size #[.int .i64 out.d, .bool out.b, .bool out.l, .int .i64 out.n, .int .i64 out.x, .bool out.t] 28 := by subst ho; exact Row.new _ _ _
    have hG : Gs w w.heap.size (w.heap.size + 1) w1.heap.size s out (w1.alloc (.cells #[.int .i64 s.d, .bool s.b, .bool s.l, .int .i64 s.n, .int .i64 0, .bool true] 28)) := ⟨r1.alloc _, r7, ⟨_, rfl, r2.alloc _⟩, hB.alloc hB.size _⟩
    clear r1 r2 hB hb c1 r7
    have hd' := hd
    refine region_by_each (by kernel_rfl) (by kernel_rfl) (fun W => Gs w w.heap.size (w.heap.size + 1) w1.heap.size s out W)
      (kinds [KIs (.agg #[.int .i64 out.d, .bool out.b, .bool out.l, .int .i64 out.n, .int .i64 out.x, .bool out.t]), KIs (.pointer (some ⟨w.heap.size, 4, none⟩)), KIs (.int .i64 s.x), KIs (.pointer (some ⟨w.heap.size, 0, none⟩)), KIs (.int .i64 s.d), KIs (.int .i64 (s.d / 128)), KRow (w.heap.size + 1) #[.int .i64 out.d, .bool out.b, .bool out.l, .int .i64 out.n, .int .i64 out.x, .bool out.t] 28, KIs (.int .i64 s.x), KIs (.int .i64 (s.d / 128))])
      (steps 6 (fun k => k = w.heap.size + 1) (fun _ => False)) (by kernel_rfl) (kinds_steps ?hY ?hX) hG.drew ?step ?done
    case hY =>
      intro K hK
      simp only [List.mem_cons, List.not_mem_nil, or_false] at hK
      rcases hK with rfl | rfl | rfl | rfl | rfl | rfl | rfl | rfl | rfl
      all_goals first | exact bears_is _ _ | exact bears_any _ | exact bears_int _ | exact bears_row _ _ _ _ (by simp)
    case hX =>
      intro ix K hK hne
      rcases ix with _ | ix
      · cases hK; first | exact bears_is _ _ | exact bears_any _ | exact bears_int _
      rcases ix with _ | ix
      · cases hK; first | exact bears_is _ _ | exact bears_any _ | exact bears_int _
      rcases ix with _ | ix
      · cases hK; first | exact bears_is _ _ | exact bears_any _ | exact bears_int _
      rcases ix with _ | ix
      · cases hK; first | exact bears_is _ _ | exact bears_any _ | exact bears_int _
      rcases ix with _ | ix
      · cases hK; first | exact bears_is _ _ | exact bears_any _ | exact bears_int _
      rcases ix with _ | ix
      · cases hK; first | exact bears_is _ _ | exact bears_any _ | exact bears_int _
      rcases ix with _ | ix
      · exact absurd rfl hne
      rcases ix with _ | ix
      · cases hK; first | exact bears_is _ _ | exact bears_any _ | exact bears_int _
      rcases ix with _ | ix
      · cases hK; first | exact bears_is _ _ | exact bears_any _ | exact bears_int _
      simp at hK
    case step =>
      intro L ix o A W hi hI hL hd
      have hin : ix < 9 := by
        by_cases hl : ix < 9
        · exact hl
        · simp [hl] at hi
      have hsz : A.tmps.size = 31 := hI.size
      rcases ix with _ | ix
      · cases hi
        have e : A.eval (.tmp 7) = .pointer (some ⟨w1.heap.size, 0, none⟩) := hI.old 7 (by kernel_rfl)
        exact at_op rfl rfl (wp_load_row _ _ rfl _ e _ _ _ _ hI.g.r7.row und_sr rfl info_sr ⟨_, rfl, rfl, hI.g, steps_other (by decide) (Rel.refl _ _)⟩)
      rcases ix with _ | ix
      · cases hi
        have e : A.eval (.tmp 2) = .pointer (some ⟨w.heap.size, 0, none⟩) := hI.old 2 (by kernel_rfl)
        refine at_op rfl rfl (val_op (v := .pointer (some ⟨w.heap.size, 4, none⟩)) ?_ ⟨_, rfl, rfl, hI.g, steps_other (by decide) (Rel.refl _ _)⟩)
        unfold execOp
        simp only [List.getElem_toArray, List.getElem_cons_zero, List.getElem_cons_succ, e]
        simp [go_sem]
      rcases ix with _ | ix
      · cases hi
        have e : A.eval (.tmp 26) = .pointer (some ⟨w.heap.size, 4, none⟩) := hI.get hd 1 26 rfl (by kernel_rfl)
        exact at_op rfl rfl (load_op rfl Tryz.underlying2 e (show W.cell? ⟨w.heap.size, 4, none⟩ = some (.int .i64 s.x) from hI.g.r2.cell 4) ⟨_, rfl, rfl, hI.g, steps_other (by decide) (Rel.refl _ _)⟩)
      rcases ix with _ | ix
      · cases hi
        have e : A.eval (.tmp 2) = .pointer (some ⟨w.heap.size, 0, none⟩) := hI.old 2 (by kernel_rfl)
        refine at_op rfl rfl (val_op (v := .pointer (some ⟨w.heap.size, 0, none⟩)) ?_ ⟨_, rfl, rfl, hI.g, steps_other (by decide) (Rel.refl _ _)⟩)
        unfold execOp
        simp only [List.getElem_toArray, List.getElem_cons_zero, List.getElem_cons_succ, e]
        simp [go_sem]
      rcases ix with _ | ix
      · cases hi
        have e : A.eval (.tmp 28) = .pointer (some ⟨w.heap.size, 0, none⟩) := hI.get hd 3 28 rfl (by kernel_rfl)
        exact at_op rfl rfl (load_op rfl Tryz.underlying2 e (show W.cell? ⟨w.heap.size, 0, none⟩ = some (.int .i64 s.d) from hI.g.r2.cell 0) ⟨_, rfl, rfl, hI.g, steps_other (by decide) (Rel.refl _ _)⟩)
      rcases ix with _ | ix
      · cases hi
        have e0 : A.eval (.tmp 29) = .int .i64 s.d := hI.get hd 4 29 rfl (by kernel_rfl)
        refine at_op rfl rfl (call_op rfl Tryz.func243 (by kernel_rfl) (by kernel_rfl) ?_)
        simp only [List.map_cons, List.map_nil, e0]
        refine (top_any s.d W hd').mono ?_
        rintro e w5 ⟨rfl, rfl⟩
        exact ⟨_, rfl, _, rfl, rfl, hI.g, steps_other (by decide) (Rel.refl _ _)⟩
      rcases ix with _ | ix
      · cases hi
        have e1 : A.eval (.tmp 25) = .agg #[.int .i64 out.d, .bool out.b, .bool out.l, .int .i64 out.n, .int .i64 out.x, .bool out.t] := hI.get hd 0 25 rfl (by kernel_rfl)
        have e2 : A.eval (.tmp 4) = .pointer (some ⟨w.heap.size + 1, 0, none⟩) := hI.old 4 (by kernel_rfl)
        obtain ⟨oc, hrs, hr⟩ := hI.g.r4
        exact at_op rfl rfl (wp_store_row _ _ _ rfl _ _ e2 e1 _ _ hr.row info_sr hrs (by simp [Value.oneCell']) ⟨_, rfl, setRow_heap W _ _ _ _ _ hr.row, hI.g.store (by omega) (by omega) (by omega) _ rfl, steps_same (Rel.onto (row_set _) rfl)⟩)
      rcases ix with _ | ix
      · cases hi
        have e : A.eval (.tmp 27) = .int .i64 s.x := hI.get hd 2 27 rfl (by kernel_rfl)
        exact at_op rfl rfl (assign_op rfl ⟨_, rfl, e, hI.g, steps_other (by decide) (Rel.refl _ _)⟩)
      rcases ix with _ | ix
      · cases hi
        have e : A.eval (.tmp 30) = .int .i64 (s.d / 128) := hI.get hd 5 30 rfl (by kernel_rfl)
        exact at_op rfl rfl (assign_op rfl ⟨_, rfl, e, hI.g, steps_other (by decide) (Rel.refl _ _)⟩)
      omega
    case done =>
      intro A W hI
      have e4 : A.tmps.getD 4 undef = .pointer (some ⟨w.heap.size + 1, 0, none⟩) := hI.old 4 (by kernel_rfl)
      have e5 : A.tmps.getD 5 undef = .int .i64 s.x := hI.slot 7 5 rfl rfl
      have e6 : A.tmps.getD 6 undef = .int .i64 (s.d / 128) := hI.slot 8 6 rfl rfl
      obtain ⟨vv, hv⟩ := hI.eff 6 _ rfl rfl rfl
      have hrow : Row W (w.heap.size + 1) #[.int .i64 out.d, .bool out.b, .bool out.l, .int .i64 out.n, .int .i64 out.x, .bool out.t] 28 := Row.of hv
      have hA := frame_lit A 31 hI.size
      have hg := hI.g
      have hde : A.defers = [] := hI.defers
      rw [hde, show List.range 31 = [0, 1, 2, 3, 4, 5, 6, 7, 8, 9, 10, 11, 12, 13, 14, 15, 16, 17, 18, 19, 20, 21, 22, 23, 24, 25, 26, 27, 28, 29, 30] from rfl] at hA
      simp only [List.map_cons, List.map_nil, e4, e5, e6] at hA
      rw [hA]
      clear hA e4 e5 e6 hI hde
      go_wp2
      refine ret_row_tmp2 rfl rfl hrow und_sr rfl info_sr rfl rfl rfl ?_
      exact ⟨rfl, hg.bel⟩
end Go.Proofs.YtghmkacamabndaaGreatDoor.Srl
namespace Go.Proofs.YtghmkacamabndaaGreatDoor.Srl
open Go.ChangeShapes Go.WideShapes Go.RowKit Base Num Slc Rw Reg Tmr

set_option maxHeartbeats 4000000 in
theorem serialBeat_spec (s : Sr) (bit : Int) (w : World) :
    Calls Tryz.prog 240 #[s.val, .int .i64 bit] w fun e w' => e = .returned (.tuple #[(s.beat bit).1.val, .int .i64 (s.beat bit).2.1, .bool (s.beat bit).2.2]) ∧ Below w.heap.size w w' := by
  cases hok : s.ok
  · have e : s.beat bit = (Sr.nul, 0, false) := by simp [Sr.beat, hok]
    rw [e, Sr.eta s]
    go_enter Tryz.func240, Tryz.ntmps240
    go_wp2_with (first
      | (go_at_call 125; refine (serialOk_spec s _).mono ?_; rintro e w1 ⟨rfl, hb⟩; rw [hok]; obtain ⟨r1, r2, hB⟩ := box2 hb; have c1 := r1.cell; have l1 := r1.lt; have l2 := r2.lt)
      | (refine st_sr rfl rfl rfl rfl r2 rfl ?_; intro w2 r3 ho2 hs2))
    refine ret_row_tmp2 rfl rfl r3 und_sr rfl info_sr rfl rfl rfl ?_
    exact ⟨rfl, below_onto hB ho2 (by omega)⟩
  cases hbit : inn bit 0 1
  · have e : s.beat bit = (Sr.nul, 0, false) := by simp [Sr.beat, hbit]
    rw [e, Sr.eta s]
    go_enter Tryz.func240, Tryz.ntmps240
    go_wp2_with (first
      | (go_at_call 125; refine (serialOk_spec s _).mono ?_; rintro e w1 ⟨rfl, hb⟩; rw [hok]; obtain ⟨r1, r2, hB⟩ := box2 hb; have c1 := r1.cell; have l1 := r1.lt; have l2 := r2.lt)
      | (go_at_call 123; refine (in_any _ _ _ _).mono ?_; rintro e w1 ⟨rfl, rfl⟩; rw [hbit])
      | (refine st_sr rfl rfl rfl rfl r2 rfl ?_; intro w2 r3 ho2 hs2))
    refine ret_row_tmp2 rfl rfl r3 und_sr rfl info_sr rfl rfl rfl ?_
    exact ⟨rfl, below_onto hB ho2 (by omega)⟩
  have hb' := inn_true hbit
  obtain ⟨hd, hx⟩ := Sr.ok_true hok
  have hbn := Sr.ok_busy hok
  obtain ⟨d, b, l, n, x, t⟩ := s
  simp only at hd hx hbn
  cases b
  · have e : (Sr.mk d false l n x t).beat bit = (⟨d, false, l, n, x, t⟩, 1, false) := by simp [Sr.beat, hok, hbit]
    rw [e, Sr.eta]
    go_enter Tryz.func240, Tryz.ntmps240
    go_wp2_with (first
      | (go_at_call 125; refine (serialOk_spec ⟨d, false, l, n, x, t⟩ _).mono ?_; rintro e w1 ⟨rfl, hb⟩; rw [hok]; obtain ⟨r1, r2, hB⟩ := box2 hb; have c1 := r1.cell; have l1 := r1.lt; have l2 := r2.lt)
      | (go_at_call 123; refine (in_any _ _ _ _).mono ?_; rintro e w1 ⟨rfl, rfl⟩; rw [hbit])
      | (refine st_sr rfl rfl rfl rfl r2 rfl ?_; intro w2 r3 ho2 hs2))
    refine ret_row_tmp2 rfl rfl r3 und_sr rfl info_sr rfl rfl rfl ?_
    exact ⟨rfl, below_onto hB ho2 (by omega)⟩
  by_cases hlt : l = true
  · subst hlt
    have e : (Sr.mk d true true n x t).beat bit = (⟨d, true, true, n, x, t⟩, 1, false) := by simp [Sr.beat, hok, hbit]
    rw [e, Sr.eta]
    go_enter Tryz.func240, Tryz.ntmps240
    go_wp2_with (first
      | (go_at_call 125; refine (serialOk_spec ⟨d, true, true, n, x, t⟩ _).mono ?_; rintro e w1 ⟨rfl, hb⟩; rw [hok]; obtain ⟨r1, r2, hB⟩ := box2 hb; have c1 := r1.cell; have l1 := r1.lt; have l2 := r2.lt)
      | (go_at_call 123; refine (in_any _ _ _ _).mono ?_; rintro e w1 ⟨rfl, rfl⟩; rw [hbit])
      | (refine st_sr rfl rfl rfl rfl r2 rfl ?_; intro w2 r3 ho2 hs2))
    refine ret_row_tmp2 rfl rfl r3 und_sr rfl info_sr rfl rfl rfl ?_
    exact ⟨rfl, below_onto hB ho2 (by omega)⟩
  obtain rfl : l = false := by simpa using hlt
  have hn := hbn rfl
  clear hbn
  have hsh : (Sr.mk d true false n x t).shift bit = ⟨2 * d % 256 + bit, true, false, n - 1, x, t⟩ := rfl
  by_cases h1 : n = 1
  · subst h1
    have e : (Sr.mk d true false 1 x t).beat bit = (⟨2 * d % 256 + bit, false, false, 0, x, t⟩, d / 128, true) := by simp [Sr.beat, hok, hbit]
    rw [e, Sr.eta]
    generalize ho : (⟨2 * d % 256 + bit, false, false, 0, x, t⟩ : Sr) = out
    have HO : Hid ((⟨2 * d % 256 + bit, false, false, 0, x, t⟩ : Sr) = out) := ho
    clear ho
    go_enter Tryz.func240, Tryz.ntmps240
    go_wp2_with (first
      | (go_at_call 125; refine (serialOk_spec ⟨d, true, false, 1, x, t⟩ _).mono ?_; rintro e w1 ⟨rfl, hb⟩; rw [hok]; obtain ⟨r1, r2, hB⟩ := box2 hb; have c1 := r1.cell; have l1 := r1.lt; have l2 := r2.lt)
      | (go_at_call 123; refine (in_any _ _ _ _).mono ?_; rintro e w1 ⟨rfl, rfl⟩; rw [hbit])
      | (go_at_call 259; refine (shift_any ⟨d, true, false, 1, x, t⟩ _ _ hd hb' (by simp)).mono ?_; rw [hsh]; rintro e w3 ⟨rfl, hb3⟩; replace r1 := r1.below hb3; replace r2 := r2.below hb3; replace hB := hB.trans (hb3.mono hB.size); have l3 := r1.lt; have l4 := r2.lt; rw [Sr.eta]))
    have ho := HO.out
    obtain ⟨s, hs⟩ : ∃ s : Sr, (⟨d, true, false, 1, x, t⟩ : Sr) = s := ⟨_, rfl⟩
    have r7 : Row (w3.alloc (.cells #[.int .i64 (2 * d % 256 + bit), .bool false, .bool false, .int .i64 (0), .int .i64 x, .bool t] 28)) w3.heap.size #[.int .i64 out.d, .bool out.b, .bool out.l, .int .i64 out.n, .int .i64 out.x, .bool out.t] 28 := by subst ho; exact Row.new _ _ _
    have r1' : Row w3 w.heap.size #[.int .i64 s.d, .bool s.b, .bool s.l, .int .i64 s.n, .int .i64 s.x, .bool s.t] 28 := by subst hs; exact r1
    have hG : Gs w w.heap.size (w.heap.size + 1) w3.heap.size s out (w3.alloc (.cells #[.int .i64 (2 * d % 256 + bit), .bool false, .bool false, .int .i64 (0), .int .i64 x, .bool t] 28)) := ⟨r1'.alloc _, r7, ⟨_, rfl, r2.alloc _⟩, hB.alloc hB.size _⟩
    have hsd : s.d = d := by subst hs; rfl
    have hon : out.n = 0 := by subst ho; rfl
    clear r1 r1' r2 hB hb c1 r7
    refine region_by_each (by kernel_rfl) (by kernel_rfl) (fun W => Gs w w.heap.size (w.heap.size + 1) w3.heap.size s out W)
      (kinds [KIs (.agg #[.int .i64 out.d, .bool out.b, .bool out.l, .int .i64 out.n, .int .i64 out.x, .bool out.t]), KIs (.pointer (some ⟨w.heap.size, 0, none⟩)), KIs (.int .i64 s.d), KIs (.int .i64 (s.d / 128)), KIs (.pointer (some ⟨w3.heap.size, 3, none⟩)), KIs (.int .i64 out.n), KIs (.bool true), KRow (w.heap.size + 1) #[.int .i64 out.d, .bool out.b, .bool out.l, .int .i64 out.n, .int .i64 out.x, .bool out.t] 28, KIs (.int .i64 (s.d / 128)), KIs (.bool true)])
      (steps 7 (fun k => k = w.heap.size + 1) (fun _ => False)) (by kernel_rfl) (kinds_steps ?hY ?hX) hG.drew ?step ?done
    case hY =>
      intro K hK
      simp only [List.mem_cons, List.not_mem_nil, or_false] at hK
      rcases hK with rfl | rfl | rfl | rfl | rfl | rfl | rfl | rfl | rfl | rfl
      all_goals first | exact bears_is _ _ | exact bears_any _ | exact bears_int _ | exact bears_row _ _ _ _ (by simp)
    case hX =>
      intro ix K hK hne
      rcases ix with _ | ix
      · cases hK; first | exact bears_is _ _ | exact bears_any _ | exact bears_int _
      rcases ix with _ | ix
      · cases hK; first | exact bears_is _ _ | exact bears_any _ | exact bears_int _
      rcases ix with _ | ix
      · cases hK; first | exact bears_is _ _ | exact bears_any _ | exact bears_int _
      rcases ix with _ | ix
      · cases hK; first | exact bears_is _ _ | exact bears_any _ | exact bears_int _
      rcases ix with _ | ix
      · cases hK; first | exact bears_is _ _ | exact bears_any _ | exact bears_int _
      rcases ix with _ | ix
      · cases hK; first | exact bears_is _ _ | exact bears_any _ | exact bears_int _
      rcases ix with _ | ix
      · cases hK; first | exact bears_is _ _ | exact bears_any _ | exact bears_int _
      rcases ix with _ | ix
      · exact absurd rfl hne
      rcases ix with _ | ix
      · cases hK; first | exact bears_is _ _ | exact bears_any _ | exact bears_int _
      rcases ix with _ | ix
      · cases hK; first | exact bears_is _ _ | exact bears_any _ | exact bears_int _
      simp at hK
    case step =>
      intro L ix o A W hi hI hL hd
      have hin : ix < 10 := by
        by_cases hl : ix < 10
        · exact hl
        · simp [hl] at hi
      have hsz : A.tmps.size = 39 := hI.size
      rcases ix with _ | ix
      · cases hi
        have e : A.eval (.tmp 7) = .pointer (some ⟨w3.heap.size, 0, none⟩) := hI.old 7 (by kernel_rfl)
        exact at_op rfl rfl (wp_load_row _ _ rfl _ e _ _ _ _ hI.g.r7.row und_sr rfl info_sr ⟨_, rfl, rfl, hI.g, steps_other (by decide) (Rel.refl _ _)⟩)
      rcases ix with _ | ix
      · cases hi
        have e : A.eval (.tmp 2) = .pointer (some ⟨w.heap.size, 0, none⟩) := hI.old 2 (by kernel_rfl)
        refine at_op rfl rfl (val_op (v := .pointer (some ⟨w.heap.size, 0, none⟩)) ?_ ⟨_, rfl, rfl, hI.g, steps_other (by decide) (Rel.refl _ _)⟩)
        unfold execOp
        simp only [List.getElem_toArray, List.getElem_cons_zero, List.getElem_cons_succ, e]
        simp [go_sem]
      rcases ix with _ | ix
      · cases hi
        have e : A.eval (.tmp 33) = .pointer (some ⟨w.heap.size, 0, none⟩) := hI.get hd 1 33 rfl (by kernel_rfl)
        exact at_op rfl rfl (load_op rfl Tryz.underlying2 e (show W.cell? ⟨w.heap.size, 0, none⟩ = some (.int .i64 s.d) from hI.g.r2.cell 0) ⟨_, rfl, rfl, hI.g, steps_other (by decide) (Rel.refl _ _)⟩)
      rcases ix with _ | ix
      · cases hi
        have e0 : A.eval (.tmp 34) = .int .i64 s.d := hI.get hd 2 34 rfl (by kernel_rfl)
        refine at_op rfl rfl (call_op rfl Tryz.func243 (by kernel_rfl) (by kernel_rfl) ?_)
        simp only [List.map_cons, List.map_nil, e0]
        refine (top_any s.d W (by omega)).mono ?_
        rintro e w5 ⟨rfl, rfl⟩
        exact ⟨_, rfl, _, rfl, rfl, hI.g, steps_other (by decide) (Rel.refl _ _)⟩
      rcases ix with _ | ix
      · cases hi
        have e : A.eval (.tmp 7) = .pointer (some ⟨w3.heap.size, 0, none⟩) := hI.old 7 (by kernel_rfl)
        refine at_op rfl rfl (val_op (v := .pointer (some ⟨w3.heap.size, 3, none⟩)) ?_ ⟨_, rfl, rfl, hI.g, steps_other (by decide) (Rel.refl _ _)⟩)
        unfold execOp
        simp only [List.getElem_toArray, List.getElem_cons_zero, List.getElem_cons_succ, e]
        simp [go_sem]
      rcases ix with _ | ix
      · cases hi
        have e : A.eval (.tmp 36) = .pointer (some ⟨w3.heap.size, 3, none⟩) := hI.get hd 4 36 rfl (by kernel_rfl)
        exact at_op rfl rfl (load_op rfl Tryz.underlying2 e (show W.cell? ⟨w3.heap.size, 3, none⟩ = some (.int .i64 out.n) from hI.g.r7.cell 3) ⟨_, rfl, rfl, hI.g, steps_other (by decide) (Rel.refl _ _)⟩)
      rcases ix with _ | ix
      · cases hi
        have e1 : A.eval (.tmp 37) = .int .i64 out.n := hI.get hd 5 37 rfl (by kernel_rfl)
        exact at_op rfl rfl (bin_op (vy := .int .i64 0) rfl e1 rfl (fun w => by rw [hon]; simp [go_sem]) ⟨_, rfl, rfl, hI.g, steps_other (by decide) (Rel.refl _ _)⟩)
      rcases ix with _ | ix
      · cases hi
        have e1 : A.eval (.tmp 32) = .agg #[.int .i64 out.d, .bool out.b, .bool out.l, .int .i64 out.n, .int .i64 out.x, .bool out.t] := hI.get hd 0 32 rfl (by kernel_rfl)
        have e2 : A.eval (.tmp 4) = .pointer (some ⟨w.heap.size + 1, 0, none⟩) := hI.old 4 (by kernel_rfl)
        obtain ⟨oc, hrs, hr⟩ := hI.g.r4
        exact at_op rfl rfl (wp_store_row _ _ _ rfl _ _ e2 e1 _ _ hr.row info_sr hrs (by simp [Value.oneCell']) ⟨_, rfl, setRow_heap W _ _ _ _ _ hr.row, hI.g.store (by omega) (by omega) (by omega) _ rfl, steps_same (Rel.onto (row_set _) rfl)⟩)
      rcases ix with _ | ix
      · cases hi
        have e : A.eval (.tmp 35) = .int .i64 (s.d / 128) := hI.get hd 3 35 rfl (by kernel_rfl)
        exact at_op rfl rfl (assign_op rfl ⟨_, rfl, e, hI.g, steps_other (by decide) (Rel.refl _ _)⟩)
      rcases ix with _ | ix
      · cases hi
        have e : A.eval (.tmp 38) = .bool true := hI.get hd 6 38 rfl (by kernel_rfl)
        exact at_op rfl rfl (assign_op rfl ⟨_, rfl, e, hI.g, steps_other (by decide) (Rel.refl _ _)⟩)
      omega
    case done =>
      intro A W hI
      have e4 : A.tmps.getD 4 undef = .pointer (some ⟨w.heap.size + 1, 0, none⟩) := hI.old 4 (by kernel_rfl)
      have e5 : A.tmps.getD 5 undef = .int .i64 (s.d / 128) := hI.slot 8 5 rfl rfl
      have e6 : A.tmps.getD 6 undef = .bool true := hI.slot 9 6 rfl rfl
      obtain ⟨vv, hv⟩ := hI.eff 7 _ rfl rfl rfl
      have hrow : Row W (w.heap.size + 1) #[.int .i64 out.d, .bool out.b, .bool out.l, .int .i64 out.n, .int .i64 out.x, .bool out.t] 28 := Row.of hv
      have hA := frame_lit A 39 hI.size
      have hg := hI.g
      have hde : A.defers = [] := hI.defers
      rw [hde, show List.range 39 = [0, 1, 2, 3, 4, 5, 6, 7, 8, 9, 10, 11, 12, 13, 14, 15, 16, 17, 18, 19, 20, 21, 22, 23, 24, 25, 26, 27, 28, 29, 30, 31, 32, 33, 34, 35, 36, 37, 38] from rfl] at hA
      simp only [List.map_cons, List.map_nil, e4, e5, e6] at hA
      rw [hA]
      clear hA e4 e5 e6 hI hde
      go_wp2
      refine ret_row_tmp2 rfl rfl hrow und_sr rfl info_sr rfl rfl rfl ?_
      exact ⟨by rw [hsd]; rfl, hg.bel⟩
  · have e : (Sr.mk d true false n x t).beat bit = (⟨2 * d % 256 + bit, true, false, n - 1, x, t⟩, d / 128, false) := by simp [Sr.beat, hok, hbit, h1]
    rw [e, Sr.eta]
    have h0 : ¬ n - 1 = 0 := by omega
    generalize ho : (⟨2 * d % 256 + bit, true, false, n - 1, x, t⟩ : Sr) = out
    have HO : Hid ((⟨2 * d % 256 + bit, true, false, n - 1, x, t⟩ : Sr) = out) := ho
    clear ho
    go_enter Tryz.func240, Tryz.ntmps240
    go_wp2_with (first
      | (go_at_call 125; refine (serialOk_spec ⟨d, true, false, n, x, t⟩ _).mono ?_; rintro e w1 ⟨rfl, hb⟩; rw [hok]; obtain ⟨r1, r2, hB⟩ := box2 hb; have c1 := r1.cell; have l1 := r1.lt; have l2 := r2.lt)
      | (go_at_call 123; refine (in_any _ _ _ _).mono ?_; rintro e w1 ⟨rfl, rfl⟩; rw [hbit])
      | (go_at_call 259; refine (shift_any ⟨d, true, false, n, x, t⟩ _ _ hd hb' (by simp; omega)).mono ?_; rw [hsh]; rintro e w3 ⟨rfl, hb3⟩; replace r1 := r1.below hb3; replace r2 := r2.below hb3; replace hB := hB.trans (hb3.mono hB.size); have l3 := r1.lt; have l4 := r2.lt; rw [Sr.eta]))
    have ho := HO.out
    obtain ⟨s, hs⟩ : ∃ s : Sr, (⟨d, true, false, n, x, t⟩ : Sr) = s := ⟨_, rfl⟩
    have r7 : Row (w3.alloc (.cells #[.int .i64 (2 * d % 256 + bit), .bool true, .bool false, .int .i64 (n - 1), .int .i64 x, .bool t] 28)) w3.heap.size #[.int .i64 out.d, .bool out.b, .bool out.l, .int .i64 out.n, .int .i64 out.x, .bool out.t] 28 := by subst ho; exact Row.new _ _ _
    have r1' : Row w3 w.heap.size #[.int .i64 s.d, .bool s.b, .bool s.l, .int .i64 s.n, .int .i64 s.x, .bool s.t] 28 := by subst hs; exact r1
    have hG : Gs w w.heap.size (w.heap.size + 1) w3.heap.size s out (w3.alloc (.cells #[.int .i64 (2 * d % 256 + bit), .bool true, .bool false, .int .i64 (n - 1), .int .i64 x, .bool t] 28)) := ⟨r1'.alloc _, r7, ⟨_, rfl, r2.alloc _⟩, hB.alloc hB.size _⟩
    have hsd : s.d = d := by subst hs; rfl
    have hon : out.n = n - 1 := by subst ho; rfl
    clear r1 r1' r2 hB hb c1 r7
    refine region_by_each (by kernel_rfl) (by kernel_rfl) (fun W => Gs w w.heap.size (w.heap.size + 1) w3.heap.size s out W)
      (kinds [KIs (.agg #[.int .i64 out.d, .bool out.b, .bool out.l, .int .i64 out.n, .int .i64 out.x, .bool out.t]), KIs (.pointer (some ⟨w.heap.size, 0, none⟩)), KIs (.int .i64 s.d), KIs (.int .i64 (s.d / 128)), KIs (.pointer (some ⟨w3.heap.size, 3, none⟩)), KIs (.int .i64 out.n), KIs (.bool false), KRow (w.heap.size + 1) #[.int .i64 out.d, .bool out.b, .bool out.l, .int .i64 out.n, .int .i64 out.x, .bool out.t] 28, KIs (.int .i64 (s.d / 128)), KIs (.bool false)])
      (steps 7 (fun k => k = w.heap.size + 1) (fun _ => False)) (by kernel_rfl) (kinds_steps ?hY ?hX) hG.drew ?step ?done
    case hY =>
      intro K hK
      simp only [List.mem_cons, List.not_mem_nil, or_false] at hK
      rcases hK with rfl | rfl | rfl | rfl | rfl | rfl | rfl | rfl | rfl | rfl
      all_goals first | exact bears_is _ _ | exact bears_any _ | exact bears_int _ | exact bears_row _ _ _ _ (by simp)
    case hX =>
      intro ix K hK hne
      rcases ix with _ | ix
      · cases hK; first | exact bears_is _ _ | exact bears_any _ | exact bears_int _
      rcases ix with _ | ix
      · cases hK; first | exact bears_is _ _ | exact bears_any _ | exact bears_int _
      rcases ix with _ | ix
      · cases hK; first | exact bears_is _ _ | exact bears_any _ | exact bears_int _
      rcases ix with _ | ix
      · cases hK; first | exact bears_is _ _ | exact bears_any _ | exact bears_int _
      rcases ix with _ | ix
      · cases hK; first | exact bears_is _ _ | exact bears_any _ | exact bears_int _
      rcases ix with _ | ix
      · cases hK; first | exact bears_is _ _ | exact bears_any _ | exact bears_int _
      rcases ix with _ | ix
      · cases hK; first | exact bears_is _ _ | exact bears_any _ | exact bears_int _
      rcases ix with _ | ix
      · exact absurd rfl hne
      rcases ix with _ | ix
      · cases hK; first | exact bears_is _ _ | exact bears_any _ | exact bears_int _
      rcases ix with _ | ix
      · cases hK; first | exact bears_is _ _ | exact bears_any _ | exact bears_int _
      simp at hK
    case step =>
      intro L ix o A W hi hI hL hd
      have hin : ix < 10 := by
        by_cases hl : ix < 10
        · exact hl
        · simp [hl] at hi
      have hsz : A.tmps.size = 39 := hI.size
      rcases ix with _ | ix
      · cases hi
        have e : A.eval (.tmp 7) = .pointer (some ⟨w3.heap.size, 0, none⟩) := hI.old 7 (by kernel_rfl)
        exact at_op rfl rfl (wp_load_row _ _ rfl _ e _ _ _ _ hI.g.r7.row und_sr rfl info_sr ⟨_, rfl, rfl, hI.g, steps_other (by decide) (Rel.refl _ _)⟩)
      rcases ix with _ | ix
      · cases hi
        have e : A.eval (.tmp 2) = .pointer (some ⟨w.heap.size, 0, none⟩) := hI.old 2 (by kernel_rfl)
        refine at_op rfl rfl (val_op (v := .pointer (some ⟨w.heap.size, 0, none⟩)) ?_ ⟨_, rfl, rfl, hI.g, steps_other (by decide) (Rel.refl _ _)⟩)
        unfold execOp
        simp only [List.getElem_toArray, List.getElem_cons_zero, List.getElem_cons_succ, e]
        simp [go_sem]
      rcases ix with _ | ix
      · cases hi
        have e : A.eval (.tmp 33) = .pointer (some ⟨w.heap.size, 0, none⟩) := hI.get hd 1 33 rfl (by kernel_rfl)
        exact at_op rfl rfl (load_op rfl Tryz.underlying2 e (show W.cell? ⟨w.heap.size, 0, none⟩ = some (.int .i64 s.d) from hI.g.r2.cell 0) ⟨_, rfl, rfl, hI.g, steps_other (by decide) (Rel.refl _ _)⟩)
      rcases ix with _ | ix
      · cases hi
        have e0 : A.eval (.tmp 34) = .int .i64 s.d := hI.get hd 2 34 rfl (by kernel_rfl)
        refine at_op rfl rfl (call_op rfl Tryz.func243 (by kernel_rfl) (by kernel_rfl) ?_)
        simp only [List.map_cons, List.map_nil, e0]
        refine (top_any s.d W (by omega)).mono ?_
        rintro e w5 ⟨rfl, rfl⟩
        exact ⟨_, rfl, _, rfl, rfl, hI.g, steps_other (by decide) (Rel.refl _ _)⟩
      rcases ix with _ | ix
      · cases hi
        have e : A.eval (.tmp 7) = .pointer (some ⟨w3.heap.size, 0, none⟩) := hI.old 7 (by kernel_rfl)
        refine at_op rfl rfl (val_op (v := .pointer (some ⟨w3.heap.size, 3, none⟩)) ?_ ⟨_, rfl, rfl, hI.g, steps_other (by decide) (Rel.refl _ _)⟩)
        unfold execOp
        simp only [List.getElem_toArray, List.getElem_cons_zero, List.getElem_cons_succ, e]
        simp [go_sem]
      rcases ix with _ | ix
      · cases hi
        have e : A.eval (.tmp 36) = .pointer (some ⟨w3.heap.size, 3, none⟩) := hI.get hd 4 36 rfl (by kernel_rfl)
        exact at_op rfl rfl (load_op rfl Tryz.underlying2 e (show W.cell? ⟨w3.heap.size, 3, none⟩ = some (.int .i64 out.n) from hI.g.r7.cell 3) ⟨_, rfl, rfl, hI.g, steps_other (by decide) (Rel.refl _ _)⟩)
      rcases ix with _ | ix
      · cases hi
        have e1 : A.eval (.tmp 37) = .int .i64 out.n := hI.get hd 5 37 rfl (by kernel_rfl)
        exact at_op rfl rfl (bin_op (vy := .int .i64 0) rfl e1 rfl (fun w => by simp [go_sem]; omega) ⟨_, rfl, rfl, hI.g, steps_other (by decide) (Rel.refl _ _)⟩)
      rcases ix with _ | ix
      · cases hi
        have e1 : A.eval (.tmp 32) = .agg #[.int .i64 out.d, .bool out.b, .bool out.l, .int .i64 out.n, .int .i64 out.x, .bool out.t] := hI.get hd 0 32 rfl (by kernel_rfl)
        have e2 : A.eval (.tmp 4) = .pointer (some ⟨w.heap.size + 1, 0, none⟩) := hI.old 4 (by kernel_rfl)
        obtain ⟨oc, hrs, hr⟩ := hI.g.r4
        exact at_op rfl rfl (wp_store_row _ _ _ rfl _ _ e2 e1 _ _ hr.row info_sr hrs (by simp [Value.oneCell']) ⟨_, rfl, setRow_heap W _ _ _ _ _ hr.row, hI.g.store (by omega) (by omega) (by omega) _ rfl, steps_same (Rel.onto (row_set _) rfl)⟩)
      rcases ix with _ | ix
      · cases hi
        have e : A.eval (.tmp 35) = .int .i64 (s.d / 128) := hI.get hd 3 35 rfl (by kernel_rfl)
        exact at_op rfl rfl (assign_op rfl ⟨_, rfl, e, hI.g, steps_other (by decide) (Rel.refl _ _)⟩)
      rcases ix with _ | ix
      · cases hi
        have e : A.eval (.tmp 38) = .bool false := hI.get hd 6 38 rfl (by kernel_rfl)
        exact at_op rfl rfl (assign_op rfl ⟨_, rfl, e, hI.g, steps_other (by decide) (Rel.refl _ _)⟩)
      omega
    case done =>
      intro A W hI
      have e4 : A.tmps.getD 4 undef = .pointer (some ⟨w.heap.size + 1, 0, none⟩) := hI.old 4 (by kernel_rfl)
      have e5 : A.tmps.getD 5 undef = .int .i64 (s.d / 128) := hI.slot 8 5 rfl rfl
      have e6 : A.tmps.getD 6 undef = .bool false := hI.slot 9 6 rfl rfl
      obtain ⟨vv, hv⟩ := hI.eff 7 _ rfl rfl rfl
      have hrow : Row W (w.heap.size + 1) #[.int .i64 out.d, .bool out.b, .bool out.l, .int .i64 out.n, .int .i64 out.x, .bool out.t] 28 := Row.of hv
      have hA := frame_lit A 39 hI.size
      have hg := hI.g
      have hde : A.defers = [] := hI.defers
      rw [hde, show List.range 39 = [0, 1, 2, 3, 4, 5, 6, 7, 8, 9, 10, 11, 12, 13, 14, 15, 16, 17, 18, 19, 20, 21, 22, 23, 24, 25, 26, 27, 28, 29, 30, 31, 32, 33, 34, 35, 36, 37, 38] from rfl] at hA
      simp only [List.map_cons, List.map_nil, e4, e5, e6] at hA
      rw [hA]
      clear hA e4 e5 e6 hI hde
      go_wp2
      refine ret_row_tmp2 rfl rfl hrow und_sr rfl info_sr rfl rfl rfl ?_
      exact ⟨by rw [hsd]; rfl, hg.bel⟩
end Go.Proofs.YtghmkacamabndaaGreatDoor.Srl
namespace Go.Proofs.YtghmkacamabndaaGreatDoor.Srl
open Go.ChangeShapes Go.WideShapes Go.RowKit Base Num Slc Rw Reg Tmr

def Sr.port (s : Sr) : Value := .agg #[.int .i64 s.d, .int .i64 s.n, .bool s.b, .bool s.l, .int .i64 s.x, .bool s.t]
theorem Sr.eta_port (s : Sr) : s.port = .agg #[.int .i64 s.d, .int .i64 s.n, .bool s.b, .bool s.l, .int .i64 s.x, .bool s.t] := rfl
theorem und_port : Tryz.prog.underlying 153 = some (.struct #[{ name := "shift", type := 151, offset := 0, embedded := true, tag := "", pkgPath := "loop.example/g00741/impl", byteOffset := 0 }, { name := "busy", type := 4, offset := 2, embedded := false, tag := "", pkgPath := "loop.example/g00741/impl", byteOffset := 16 }, { name := "lead", type := 4, offset := 3, embedded := false, tag := "", pkgPath := "loop.example/g00741/impl", byteOffset := 17 }, { name := "nextAt", type := 2, offset := 4, embedded := false, tag := "", pkgPath := "loop.example/g00741/impl", byteOffset := 24 }, { name := "wait", type := 4, offset := 5, embedded := false, tag := "", pkgPath := "loop.example/g00741/impl", byteOffset := 32 }]) := by kernel_rfl
theorem info_port : (Tryz.prog.info? 153).map (·.size) = some 6 := by kernel_rfl
theorem info_shift : (Tryz.prog.info? 151).map (·.size) = some 2 := by kernel_rfl
section
variable {ops : Array Oper} {rest : List Oper} {o : Oper} {a : Act} {w : World} {Q : Exit → Act → World → Prop} {x y : Operand} {g : Nat} {d n q : Int} {b l t : Bool} {T : TypeId} {old : Array Value}
theorem st_port (hgd : o.guard = none) (ho : o.op = .store 153 x y) (hx : a.eval x = .pointer (some ⟨g, 0, none⟩)) (hy : a.eval y = .agg #[.int .i64 d, .int .i64 n, .bool b, .bool l, .int .i64 q, .bool t]) (hr : Row w g old T) (hold : old.size = 6)
    (h : ∀ w', Row w' g #[.int .i64 d, .int .i64 n, .bool b, .bool l, .int .i64 q, .bool t] T → Onto g w w' → w'.heap.size = w.heap.size → wpList Tryz.prog ops Q rest (a.put o.dst undef) w') : wpList Tryz.prog ops Q (o :: rest) a w :=
  st_row hgd _ x y ho hx hy hr info_port hold (by simp [Value.oneCell']) h
theorem st_shift (hgd : o.guard = none) (ho : o.op = .store 151 x y) (hx : a.eval x = .pointer (some ⟨g, 0, none⟩)) (hy : a.eval y = .agg #[.int .i64 d, .int .i64 n]) (hr : Row w g old T) (hold : old.size = 2)
    (h : ∀ w', Row w' g #[.int .i64 d, .int .i64 n] T → Onto g w w' → w'.heap.size = w.heap.size → wpList Tryz.prog ops Q rest (a.put o.dst undef) w') : wpList Tryz.prog ops Q (o :: rest) a w :=
  st_row hgd _ x y ho hx hy hr info_shift hold (by simp [Value.oneCell']) h
end
def lfOk (b : Bool) (n : Int) : Bool := if b then inn n 1 8 else n == 0
def ldOk (b l t : Bool) : Bool := (b || !l) && (l || !t)
def nxOk (b l t : Bool) (x : Int) : Bool := if b && l && !t then clk x else x == 0
theorem bitOk_impl (n : Int) (w : World) :
    Calls Tryz.prog 134 #[.int .i64 n] w fun e w' => e = .returned (.bool (inn n 0 1)) ∧ w' = w := by
  by_cases h0 : n = 0
  · subst h0
    go_enter Tryz.func134, Tryz.ntmps134
    go_wp2
    go_ret
    exact ⟨rfl, rfl⟩
  · go_enter Tryz.func134, Tryz.ntmps134
    go_wp2
    go_ret
    exact ⟨ret_bool (by rw [Bool.eq_iff_iff]; simp [inn]; omega), rfl⟩
theorem dataOk_impl (d n : Int) (w : World) :
    Calls Tryz.prog 142 #[.agg #[.int .i64 d, .int .i64 n]] w fun e w' => e = .returned (.bool (bok d)) ∧ Below w.heap.size w w' := by
  go_enter Tryz.func142, Tryz.ntmps142
  go_wp2_with (go_at_call 75; refine (byteOk_impl _ _).mono ?_; rintro e w1 ⟨rfl, rfl⟩)
  go_ret
  exact ⟨rfl, (Below.refl _ _).alloc (Nat.le_refl _) _⟩
theorem leftOk_impl (d n : Int) (b : Bool) (w : World) :
    Calls Tryz.prog 143 #[.agg #[.int .i64 d, .int .i64 n], .bool b] w fun e w' => e = .returned (.bool (lfOk b n)) ∧ Below w.heap.size w w' := by
  cases b
  · go_enter Tryz.func143, Tryz.ntmps143
    go_wp2
    go_ret
    exact ⟨ret_bool (by simp [lfOk]), (Below.refl _ _).alloc (Nat.le_refl _) _⟩
  · by_cases h1 : 1 ≤ n
    · go_enter Tryz.func143, Tryz.ntmps143
      go_wp2
      go_ret
      exact ⟨ret_bool (by simp [lfOk, inn, h1]), (Below.refl _ _).alloc (Nat.le_refl _) _⟩
    · go_enter Tryz.func143, Tryz.ntmps143
      go_wp2
      go_ret
      exact ⟨ret_bool (by simp [lfOk, inn]; omega), (Below.refl _ _).alloc (Nat.le_refl _) _⟩
theorem leadOk_impl (d n x : Int) (b l t : Bool) (w : World) :
    Calls Tryz.prog 144 #[.agg #[.int .i64 d, .int .i64 n, .bool b, .bool l, .int .i64 x, .bool t]] w fun e w' => e = .returned (.bool (ldOk b l t)) ∧ Below w.heap.size w w' := by
  cases b <;> cases l <;> cases t
  all_goals
    go_enter Tryz.func144, Tryz.ntmps144
    go_wp2
    go_ret
    exact ⟨rfl, (Below.refl _ _).alloc (Nat.le_refl _) _⟩
theorem nextAtOk_impl (d n x : Int) (b l t : Bool) (w : World) :
    Calls Tryz.prog 145 #[.agg #[.int .i64 d, .int .i64 n, .bool b, .bool l, .int .i64 x, .bool t]] w fun e w' => e = .returned (.bool (nxOk b l t x)) ∧ Below w.heap.size w w' := by
  cases b <;> cases l <;> cases t
  all_goals
    go_enter Tryz.func145, Tryz.ntmps145
    go_wp2_with (go_at_call 140; refine (clockOk_impl _ _).mono ?_; rintro e w1 ⟨rfl, rfl⟩)
    go_ret
    exact ⟨ret_bool (by simp [nxOk]), (Below.refl _ _).alloc (Nat.le_refl _) _⟩
theorem through_impl (d n : Int) (w : World) :
    Calls Tryz.prog 232 #[.agg #[.int .i64 d, .int .i64 n]] w fun e w' => e = .returned (.bool (decide (n = 0))) ∧ Below w.heap.size w w' := by
  go_enter Tryz.func232, Tryz.ntmps232
  go_wp2
  go_ret
  exact ⟨ret_bool rfl, (Below.refl _ _).alloc (Nat.le_refl _) _⟩
theorem highBit_impl (d n : Int) (w : World) (h : 0 ≤ d ∧ d ≤ 255) :
    Calls Tryz.prog 230 #[.agg #[.int .i64 d, .int .i64 n]] w fun e w' => e = .returned (.int .i64 (d / 128)) ∧ Below w.heap.size w w' := by
  have hb : bok d = true := bok_mk h.1 h.2
  by_cases hd : 127 < d
  · have e : turnLC d = true := by simp [turnLC, hb, hd]
    have e2 : d / 128 = 1 := by omega
    rw [e2]
    go_enter Tryz.func230, Tryz.ntmps230
    go_wp2_with (go_at_call 209; refine (turnedLeft_impl _ _).mono ?_; rintro e w1 ⟨rfl, rfl⟩; rw [e])
    go_ret
    exact ⟨rfl, (Below.refl _ _).alloc (Nat.le_refl _) _⟩
  · have e : turnLC d = false := by simp [turnLC, hb, hd]
    have e2 : d / 128 = 0 := by omega
    rw [e2]
    go_enter Tryz.func230, Tryz.ntmps230
    go_wp2_with (go_at_call 209; refine (turnedLeft_impl _ _).mono ?_; rintro e w1 ⟨rfl, rfl⟩; rw [e])
    go_ret
    exact ⟨rfl, (Below.refl _ _).alloc (Nat.le_refl _) _⟩
theorem portOf_impl (s : Sr) (w : World) :
    Calls Tryz.prog 141 #[s.val] w fun e w' => e = .returned s.port ∧ Below w.heap.size w w' := by
  rw [Sr.eta s]
  go_enter Tryz.func141, Tryz.ntmps141
  go_wp2_with (refine st_port rfl rfl rfl rfl (Row.new1 (w := w.alloc _) (n := w.heap.size + 1) (by simp) _ _) rfl ?_; intro w2 r3 ho2 hs2)
  refine ret_row rfl rfl r3 und_port rfl info_port rfl ?_
  exact ⟨rfl, below_onto (((Below.refl _ w).alloc (Nat.le_refl _) _).alloc (by simp) _) ho2 (by omega)⟩
theorem serial_impl (s : Sr) (w : World) :
    Calls Tryz.prog 229 #[s.port] w fun e w' => e = .returned s.val ∧ Below w.heap.size w w' := by
  rw [Sr.eta_port s]
  go_enter Tryz.func229, Tryz.ntmps229
  go_wp2_with (refine st_sr rfl rfl rfl rfl (Row.new1 (w := w.alloc _) (n := w.heap.size + 1) (by simp) _ _) rfl ?_; intro w2 r3 ho2 hs2)
  refine ret_row rfl rfl r3 und_sr rfl info_sr rfl ?_
  exact ⟨rfl, below_onto (((Below.refl _ w).alloc (Nat.le_refl _) _).alloc (by simp) _) ho2 (by omega)⟩
theorem und_shift : Tryz.prog.underlying 151 = some (.struct #[{ name := "data", type := 2, offset := 0, embedded := false, tag := "", pkgPath := "loop.example/g00741/impl", byteOffset := 0 }, { name := "left", type := 2, offset := 1, embedded := false, tag := "", pkgPath := "loop.example/g00741/impl", byteOffset := 8 }]) := by kernel_rfl
theorem shifted_impl (d n bit : Int) (w : World) (h : 0 ≤ d ∧ d ≤ 255) (hb : 0 ≤ bit ∧ bit ≤ 1) (hn : 1 ≤ n ∧ n ≤ 8) :
    Calls Tryz.prog 231 #[.agg #[.int .i64 d, .int .i64 n], .int .i64 bit] w fun e w' => e = .returned (.agg #[.int .i64 (2 * d % 256 + bit), .int .i64 (n - 1)]) ∧ Below w.heap.size w w' := by
  have hd : bok d = true := bok_mk h.1 h.2
  have e1 : addB d d = 2 * d % 256 := by simp [addB, hd]; omega
  go_enter Tryz.func231, Tryz.ntmps231
  go_wp2_with (first
    | (go_at_call 188; refine (addByte_impl _ _ _).mono ?_; rintro e w1 ⟨rfl, rfl⟩; rw [e1])
    | (refine st_shift rfl rfl rfl rfl (Row.new1 (w := w.alloc _) (n := w.heap.size + 1) (by simp) _ _) rfl ?_; intro w2 r3 ho2 hs2))
  refine ret_row rfl rfl r3 und_shift rfl info_shift rfl ?_
  exact ⟨rfl, below_onto (((Below.refl _ w).alloc (Nat.le_refl _) _).alloc (by simp) _) ho2 (by omega)⟩
theorem Sr.ok_port (s : Sr) : s.ok = (bok s.d && lfOk s.b s.n && ldOk s.b s.l s.t && nxOk s.b s.l s.t s.x) := by
  obtain ⟨d, b, l, n, x, t⟩ := s
  have k0 : clk 0 = true := by decide
  have kx : (clk x && x == 0) = (x == 0) := by
    rw [Bool.eq_iff_iff]; simp only [Bool.and_eq_true, beq_iff_eq]
    exact ⟨fun h => h.2, fun h => by subst h; exact ⟨k0, rfl⟩⟩
  cases b <;> cases l <;> cases t <;> simp only [Sr.ok, lfOk, ldOk, nxOk] <;> cases bok d <;> cases hx : clk x <;> simp_all
set_option maxHeartbeats 4000000 in
theorem serialOk_impl (s : Sr) (w : World) :
    Calls Tryz.prog 78 #[s.val] w fun e w' => e = .returned (.bool s.ok) ∧ Below w.heap.size w w' := by
  rw [Sr.ok_port s, Sr.eta s]
  go_enter Tryz.func78, Tryz.ntmps78
  go_wp2_with (first
    | (go_at_call 141; refine (portOf_impl s _).mono ?_; rintro e w1 ⟨rfl, hb⟩; have hB := ((Below.refl _ w).alloc (Nat.le_refl _) _).trans (hb.mono (by simp)); clear hb; rw [Sr.eta_port])
    | (refine st_port rfl rfl rfl rfl (Row.new _ _ _) rfl ?_; intro w2 r3 ho2 hs2; replace hB := below_onto (hB.alloc hB.size _) ho2 hB.size; have c3 := r3.cell)
    | (go_at_call 142; refine (dataOk_impl _ _ _).mono ?_; rintro e w1 ⟨rfl, hb⟩; replace r3 := r3.below hb; have c3 := r3.cell; replace hB := below_more hB hb; generalize hc1 : bok _ = r; cases r)
    | (go_at_call 143; refine (leftOk_impl _ _ _ _).mono ?_; rintro e w1 ⟨rfl, hb⟩; replace r3 := r3.below hb; have c3 := r3.cell; replace hB := below_more hB hb; generalize hc2 : lfOk _ _ = r; cases r)
    | (go_at_call 144; refine (leadOk_impl _ _ _ _ _ _ _).mono ?_; rintro e w1 ⟨rfl, hb⟩; replace r3 := r3.below hb; have c3 := r3.cell; replace hB := below_more hB hb; generalize hc3 : ldOk _ _ _ = r; cases r)
    | (go_at_call 145; refine (nextAtOk_impl _ _ _ _ _ _ _).mono ?_; rintro e w1 ⟨rfl, hb⟩; replace r3 := r3.below hb; have c3 := r3.cell; replace hB := below_more hB hb; generalize hc4 : nxOk _ _ _ _ = r; cases r))
  all_goals go_ret
  all_goals exact ⟨ret_bool (by simp [*]), hB⟩
end Go.Proofs.YtghmkacamabndaaGreatDoor.Srl
namespace Go.Proofs.YtghmkacamabndaaGreatDoor.Srl
open Go.ChangeShapes Go.WideShapes Go.RowKit Base Num Slc Rw Reg Tmr

theorem Sr.starts_port (s : Sr) (lead : Bool) (now : Int) : s.starts lead now = (s.ok && clk now && (!lead || clk (now + 32))) := by
  rw [Bool.eq_iff_iff]
  cases lead
  · simp [Sr.starts, clk, inn]
  · simp [Sr.starts, clk, inn]
    constructor
    · rintro ⟨h, _⟩; exact ⟨⟨h, by omega⟩, by omega⟩
    · rintro ⟨⟨h, _⟩, _⟩; exact ⟨h, by omega⟩
theorem info_i64 : (Tryz.prog.info? 2).map (·.size) = some 1 := by kernel_rfl
theorem info_bool : (Tryz.prog.info? 4).map (·.size) = some 1 := by kernel_rfl
set_option maxHeartbeats 4000000 in
theorem serialStart_impl (s : Sr) (lead : Bool) (now : Int) (w : World) :
    Calls Tryz.prog 262 #[s.val, .bool lead, .int .i64 now] w fun e w' => e = .returned (s.start lead now).val ∧ Below w.heap.size w w' := by
  rw [Sr.eta s]
  have hsp := Sr.starts_port s lead now
  cases hok : s.ok
  · rw [Sr.start_no (by simp [hsp, hok])]
    go_enter Tryz.func262, Tryz.ntmps262
    go_wp2_with (first
      | (go_at_call 78; refine (serialOk_impl s _).mono ?_; rintro e w1 ⟨rfl, hb⟩; rw [hok]; obtain ⟨r1, r2, hB⟩ := box2 hb)
      | (refine st_sr rfl rfl rfl rfl r2 rfl ?_; intro w2 r3 ho2 hs2))
    refine ret_row rfl rfl r3 und_sr rfl info_sr rfl ?_
    exact ⟨rfl, below_onto hB ho2 (by omega)⟩
  cases hk : clk now
  · rw [Sr.start_no (by simp [hsp, hk])]
    go_enter Tryz.func262, Tryz.ntmps262
    go_wp2_with (first
      | (go_at_call 78; refine (serialOk_impl s _).mono ?_; rintro e w1 ⟨rfl, hb⟩; rw [hok]; obtain ⟨r1, r2, hB⟩ := box2 hb)
      | (go_at_call 140; refine (clockOk_impl _ _).mono ?_; rintro e w1 ⟨rfl, rfl⟩; rw [hk])
      | (refine st_sr rfl rfl rfl rfl r2 rfl ?_; intro w2 r3 ho2 hs2))
    refine ret_row rfl rfl r3 und_sr rfl info_sr rfl ?_
    exact ⟨rfl, below_onto hB ho2 (by omega)⟩
  have hn := clk_true hk
  cases lead
  · have e : s.start false now = ⟨s.d, true, false, 8, 0, false⟩ := by simp [Sr.start, hsp, hok, hk]
    rw [e]
    go_enter Tryz.func262, Tryz.ntmps262
    go_wp2_with (first
      | (go_at_call 78; refine (serialOk_impl s _).mono ?_; rintro e w1 ⟨rfl, hb⟩; rw [hok]; obtain ⟨r1, r2, hB⟩ := box2 hb; clear hb; have c1 := r1.cell)
      | (go_at_call 140; refine (clockOk_impl _ _).mono ?_; rintro e w1 ⟨rfl, rfl⟩; rw [hk])
      | (refine st_port rfl rfl rfl rfl (Row.new _ _ _) rfl ?_; intro w2 r4 ho2 hs2; have r5 := (r2.alloc _).onto ho2 (Nat.ne_of_lt r2.lt); replace hB := below_onto (hB.alloc hB.size _) ho2 hB.size; have c4 := r4.cell; clear ho2 hs2)
      | (go_at_call 229; refine (serial_impl ⟨s.d, true, false, 8, 0, false⟩ _).mono ?_; rintro e w3 ⟨rfl, hb3⟩; replace r5 := r5.below hb3; replace hB := below_more hB hb3; rw [Sr.eta])
      | (refine st_sr rfl rfl rfl rfl r5 rfl ?_; intro w4 r6 ho4 hs4))
    refine ret_row rfl rfl r6 und_sr rfl info_sr rfl ?_
    exact ⟨rfl, below_onto hB ho4 (by omega)⟩
  cases hk2 : clk (now + 32)
  · rw [Sr.start_no (by simp [hsp, hk2])]
    go_enter Tryz.func262, Tryz.ntmps262
    go_wp2_with (first
      | (go_at_call 78; refine (serialOk_impl s _).mono ?_; rintro e w1 ⟨rfl, hb⟩; rw [hok]; obtain ⟨r1, r2, hB⟩ := box2 hb)
      | (go_at_call 140; refine (clockOk_impl _ _).mono ?_; rintro e w1 ⟨rfl, rfl⟩; first | rw [hk] | rw [hk2])
      | (refine st_sr rfl rfl rfl rfl r2 rfl ?_; intro w2 r3 ho2 hs2))
    refine ret_row rfl rfl r3 und_sr rfl info_sr rfl ?_
    exact ⟨rfl, below_onto hB ho2 (by omega)⟩
  · have e : s.start true now = ⟨s.d, true, true, 8, now + 32, false⟩ := by simp [Sr.start, hsp, hok, hk, hk2]
    rw [e]
    go_enter Tryz.func262, Tryz.ntmps262
    go_wp2_with (first
      | (go_at_call 78; refine (serialOk_impl s _).mono ?_; rintro e w1 ⟨rfl, hb⟩; rw [hok]; obtain ⟨r1, r2, hB⟩ := box2 hb; clear hb; have c1 := r1.cell)
      | (go_at_call 140; refine (clockOk_impl _ _).mono ?_; rintro e w1 ⟨rfl, rfl⟩; first | rw [hk] | rw [hk2])
      | (refine st_port rfl rfl rfl rfl (Row.new _ _ _) rfl ?_; intro w2 r4 ho2 hs2; have r5 := (r2.alloc _).onto ho2 (Nat.ne_of_lt r2.lt); have n5 : w.heap.size + 1 ≠ _ := Nat.ne_of_lt r2.lt; have hB0 := hB.size; replace hB := below_onto (hB.alloc hB.size _) ho2 hB.size; have c4 := r4.cell; clear ho2 hs2)
      | (refine st_int rfl rfl rfl rfl r4 info_i64 rfl ?_; intro w6 r7 ho6 hs6; simp only [List.setIfInBounds_toArray, List.set_cons_succ, List.set_cons_zero] at r7; replace r5 := r5.onto ho6 n5; replace hB := below_onto hB ho6 hB0; have c7 := r7.cell; clear ho6 hs6)
      | (go_at_call 229; refine (serial_impl ⟨s.d, true, true, 8, now + 32, false⟩ _).mono ?_; rintro e w3 ⟨rfl, hb3⟩; replace r5 := r5.below hb3; replace hB := below_more hB hb3; rw [Sr.eta])
      | (refine st_sr rfl rfl rfl rfl r5 rfl ?_; intro w4 r6 ho4 hs4))
    refine ret_row rfl rfl r6 und_sr rfl info_sr rfl ?_
    exact ⟨rfl, below_onto hB ho4 (by omega)⟩
end Go.Proofs.YtghmkacamabndaaGreatDoor.Srl
namespace Go.Proofs.YtghmkacamabndaaGreatDoor.Mem
open Go.ChangeShapes Go.WideShapes Go.RowKit Base Num Slc Rw Tmr Srl Rom RomOf

structure Mc where
  rom : List Int
  ram : List Int
  a : Int
  b : Int
  pc : Int
  sp : Int
  z : Bool
  c : Bool
  e : Bool
  h : Bool
  s : Bool
  fl : Int
  ms : Int
  ky : Int
  t : Tm
  p : Sr
  k : Int
def Mc.cells (vr va : Value) (m : Mc) : Array Value := #[vr, va, .int .i64 m.a, .int .i64 m.b, .int .i64 m.pc, .int .i64 m.sp, .bool m.z, .bool m.c, .bool m.e, .bool m.h, .bool m.s, .int .i64 m.fl, .int .i64 m.ms, .int .i64 m.ky,
  .int .i64 m.t.c, .int .i64 m.t.v, .int .i64 m.t.s, .int .i64 m.t.m, .int .i64 m.p.d, .bool m.p.b, .bool m.p.l, .int .i64 m.p.n, .int .i64 m.p.x, .bool m.p.t, .int .i64 m.k]
def Mc.val (vr va : Value) (m : Mc) : Value := .agg (m.cells vr va)
def Mc.nul : Mc := ⟨[], [], 0, 0, 0, 0, false, false, false, false, false, 0, 0, 0, Tm.nul, Sr.nul, 0⟩
def Mc.ok (m : Mc) : Bool := romOk m.rom && decide (m.ram.length = 64) && m.ram.all bok && bok m.a && bok m.b && bok m.pc && bok m.sp && inn m.fl 0 7 && inn m.ms 0 7 && bok m.ky && m.t.ok && m.p.ok && (m.k == m.t.c)
def flag (b : Bool) : Int := if b then 1 else 0
def Mc.read (m : Mc) (q : Int) : Int :=
  if q < 128 then (if q < m.rom.length then m.rom.getD q.toNat 0 else 255)
  else if q < 192 then m.ram.getD (q - 128).toNat 0
  else if q = 240 then m.p.d
  else if q = 241 then 128 * flag m.p.b + flag m.p.l
  else if q = 242 then m.t.c / 16 % 256
  else if q = 243 then m.t.v
  else if q = 244 then m.t.s
  else if q = 245 then m.t.m
  else if q = 246 then m.fl
  else if q = 247 then m.ms
  else if q = 248 then m.ky
  else 255
def Mc.readAt (m : Mc) (q : Int) : Int := if m.ok && bok q then m.read q else -1
def Mc.write (m : Mc) (q n : Int) : Mc :=
  if 128 ≤ q ∧ q < 192 then { m with ram := m.ram.set (q - 128).toNat n }
  else if q = 240 then { m with p := { m.p with d := n } }
  else if q = 241 then { m with p := if 127 < n then m.p.start (n % 2 == 1) m.k else ⟨m.p.d, false, false, 0, 0, false⟩ }
  else if q = 243 then { m with t := { m.t with v := n } }
  else if q = 244 then { m with t := { m.t with s := n } }
  else if q = 245 then { m with t := { m.t with m := n % 8 } }
  else if q = 246 then { m with fl := n % 8 }
  else if q = 247 then { m with ms := n % 8 }
  else m
def Mc.writtenAt (m : Mc) (q n : Int) : Mc := if m.ok && bok q && bok n then m.write q n else Mc.nul

theorem info_mc : (Tryz.prog.info? 30).map (·.size) = some 25 := by kernel_rfl
theorem Mc.size (vr va : Value) (m : Mc) : (m.cells vr va).size = 25 := rfl
theorem one_sl {w : World} {v : Value} {l : List Int} (h : Sl w v l) : v.oneCell' = true := by
  obtain ⟨a, cap, rfl, _⟩ := h; rfl
def MSl (w : World) (v : Value) (m : Mc) : Prop := ∃ vr va, v = m.val vr va ∧ Sl w vr m.rom ∧ Sl w va m.ram
def MOwn (base : Nat) (w : World) (v : Value) (m : Mc) : Prop := ∃ vr va, v = m.val vr va ∧ Own base w vr m.rom ∧ Own base w va m.ram ∧ ∀ k, vr.ownBlock = some k → va.ownBlock ≠ some k
theorem MOwn.sl {base : Nat} {w : World} {v : Value} {m : Mc} (h : MOwn base w v m) : MSl w v m := by
  obtain ⟨vr, va, rfl, h1, h2, _⟩ := h
  exact ⟨vr, va, rfl, h1.sl, h2.sl⟩
theorem MSl.below {w w' : World} {v : Value} {m : Mc} (h : MSl w v m) (hb : Below w.heap.size w w') : MSl w' v m := by
  obtain ⟨vr, va, rfl, h1, h2⟩ := h
  exact ⟨vr, va, rfl, h1.below hb, h2.below hb⟩
theorem MOwn.below {base : Nat} {w w' : World} {v : Value} {m : Mc} (h : MOwn base w v m) (hb : Below w.heap.size w w') : MOwn base w' v m := by
  obtain ⟨vr, va, rfl, h1, h2, h3⟩ := h
  exact ⟨vr, va, rfl, h1.below hb, h2.below hb, h3⟩
theorem MOwn.mono {base base' : Nat} {w : World} {v : Value} {m : Mc} (h : MOwn base w v m) (hb : base' ≤ base) : MOwn base' w v m := by
  obtain ⟨vr, va, rfl, h1, h2, h3⟩ := h
  exact ⟨vr, va, rfl, h1.mono hb, h2.mono hb, h3⟩
theorem nul_own (base : Nat) (w : World) : MOwn base w (Mc.nul.val (.slice none 0 0) (.slice none 0 0)) Mc.nul := ⟨_, _, rfl, Own.nil _ _, Own.nil _ _, by simp [Value.ownBlock]⟩
theorem Mc.ok_rom {m : Mc} (h : m.ok = true) : romOk m.rom = true ∧ m.ram.length = 64 ∧ m.t.ok = true ∧ m.p.ok = true ∧ m.k = m.t.c := by
  simp only [Mc.ok, Bool.and_eq_true, decide_eq_true_eq, beq_iff_eq] at h
  obtain ⟨⟨⟨⟨⟨⟨⟨⟨⟨⟨⟨⟨h1, h2⟩, _⟩, _⟩, _⟩, _⟩, _⟩, _⟩, _⟩, _⟩, h3⟩, h4⟩, h5⟩ := h
  exact ⟨h1, h2, h3, h4, h5⟩
theorem Mc.ok_parts {m : Mc} (h : m.ok = true) : (0 ≤ m.fl ∧ m.fl ≤ 7) ∧ (0 ≤ m.ms ∧ m.ms ≤ 7) := by
  simp only [Mc.ok, Bool.and_eq_true, decide_eq_true_eq, beq_iff_eq] at h
  obtain ⟨⟨⟨⟨⟨⟨⟨⟨⟨⟨⟨⟨_, _⟩, _⟩, _⟩, _⟩, _⟩, _⟩, h1⟩, h2⟩, _⟩, _⟩, _⟩, _⟩ := h
  exact ⟨inn_true h1, inn_true h2⟩
theorem romOk_len {l : List Int} (h : romOk l = true) : 2 ≤ l.length ∧ l.length ≤ 128 := by
  simp only [romOk, Bool.and_eq_true, decide_eq_true_eq] at h
  exact ⟨h.1.1.1, h.1.1.2⟩

theorem flagsOk_impl (n : Int) (w : World) :
    Calls Tryz.prog 76 #[.int .i64 n] w fun e w' => e = .returned (.bool (inn n 0 7)) ∧ w' = w := by
  by_cases h0 : 0 ≤ n
  · go_enter Tryz.func76, Tryz.ntmps76
    go_wp2
    go_ret
    exact ⟨ret_bool (by simp [inn, h0]; omega), rfl⟩
  · go_enter Tryz.func76, Tryz.ntmps76
    go_wp2
    go_ret
    exact ⟨ret_bool (by simp [inn]; omega), rfl⟩
structure Cs (cs : Array Value) (vr va : Value) (m : Mc) : Prop where
  vr : cs[0]? = some (vr)
  va : cs[1]? = some (va)
  a : cs[2]? = some (.int .i64 m.a)
  b : cs[3]? = some (.int .i64 m.b)
  pc : cs[4]? = some (.int .i64 m.pc)
  sp : cs[5]? = some (.int .i64 m.sp)
  z : cs[6]? = some (.bool m.z)
  c : cs[7]? = some (.bool m.c)
  e : cs[8]? = some (.bool m.e)
  h : cs[9]? = some (.bool m.h)
  s : cs[10]? = some (.bool m.s)
  fl : cs[11]? = some (.int .i64 m.fl)
  ms : cs[12]? = some (.int .i64 m.ms)
  ky : cs[13]? = some (.int .i64 m.ky)
  tc : cs[14]? = some (.int .i64 m.t.c)
  tv : cs[15]? = some (.int .i64 m.t.v)
  ts : cs[16]? = some (.int .i64 m.t.s)
  tm : cs[17]? = some (.int .i64 m.t.m)
  pd : cs[18]? = some (.int .i64 m.p.d)
  pb : cs[19]? = some (.bool m.p.b)
  pl : cs[20]? = some (.bool m.p.l)
  pn : cs[21]? = some (.int .i64 m.p.n)
  px : cs[22]? = some (.int .i64 m.p.x)
  pt : cs[23]? = some (.bool m.p.t)
  k : cs[24]? = some (.int .i64 m.k)
  tim : cs.extract 14 (14 + 4) = #[.int .i64 m.t.c, .int .i64 m.t.v, .int .i64 m.t.s, .int .i64 m.t.m]
  ser : cs.extract 18 (18 + 6) = #[.int .i64 m.p.d, .bool m.p.b, .bool m.p.l, .int .i64 m.p.n, .int .i64 m.p.x, .bool m.p.t]
  size : cs.size = 25
theorem Cs.of (vr va : Value) (m : Mc) : Cs (m.cells vr va) vr va m := ⟨rfl, rfl, rfl, rfl, rfl, rfl, rfl, rfl, rfl, rfl, rfl, rfl, rfl, rfl, rfl, rfl, rfl, rfl, rfl, rfl, rfl, rfl, rfl, rfl, rfl, rfl, rfl, rfl⟩
theorem Mc.open (vr va : Value) (m : Mc) : ∃ cs, m.val vr va = .agg cs ∧ m.cells vr va = cs ∧ Cs cs vr va m := ⟨_, rfl, rfl, Cs.of _ _ _⟩
section
variable {ops : Array Oper} {rest : List Oper} {o : Oper} {a : Act} {w : World} {Q : Exit → Act → World → Prop} {x : Operand} {g k : Nat} {cs : Array Value} {T : TypeId} {v : Value}
theorem ld_t {m : Mc} {vr va : Value} (hgd : o.guard = none) (ho : o.op = .load 26 x) (hx : a.eval x = .pointer (some ⟨g, 14, none⟩)) (hr : Row w g cs T) (hk : Cs cs vr va m) (h : wpList Tryz.prog ops Q rest (a.put o.dst m.t.val) w) : wpList Tryz.prog ops Q (o :: rest) a w :=
  ld_in (cs' := #[.int .i64 m.t.c, .int .i64 m.t.v, .int .i64 m.t.s, .int .i64 m.t.m]) hgd ho hx hr Tryz.underlying26 rfl hk.tim (by kernel_rfl) h
theorem ld_p {m : Mc} {vr va : Value} (hgd : o.guard = none) (ho : o.op = .load 28 x) (hx : a.eval x = .pointer (some ⟨g, 18, none⟩)) (hr : Row w g cs T) (hk : Cs cs vr va m) (h : wpList Tryz.prog ops Q rest (a.put o.dst m.p.val) w) : wpList Tryz.prog ops Q (o :: rest) a w :=
  ld_in (cs' := #[.int .i64 m.p.d, .bool m.p.b, .bool m.p.l, .int .i64 m.p.n, .int .i64 m.p.x, .bool m.p.t]) hgd ho hx hr Tryz.underlying28 rfl hk.ser (by kernel_rfl) h
theorem box_mc {vr va : Value} {m : Mc} (hgd : o.guard = none) (ho : o.op = .box 30 x) (hx : a.eval x = .agg cs) (hk : Cs cs vr va m)
    (h : ∀ w', Row w' w.heap.size cs 30 → Below w.heap.size w w' → wpList Tryz.prog ops Q rest (a.put o.dst (.pointer (some ⟨w.heap.size, 0, none⟩))) w') : wpList Tryz.prog ops Q (o :: rest) a w :=
  wpList_plain hgd fun _ hK => by
    have e : (Instr.box 30 (.agg cs)).run Tryz.prog w = .ok (.pointer (some ⟨w.heap.size, 0, none⟩)) (w.alloc (.cells cs 30)) := rfl
    unfold Oper.wp execOp
    simp only [ho, hx, Sem.run_bind, Result.andThen_ok, e]
    exact hK _ _ (h _ (Row.new _ _ _) ((Below.refl _ _).alloc (Nat.le_refl _) _))
end
structure Cw (w : World) (g : Nat) (vr va : Value) (m : Mc) : Prop where
  vr : w.cell? ⟨g, 0, none⟩ = some (vr)
  va : w.cell? ⟨g, 1, none⟩ = some (va)
  a : w.cell? ⟨g, 2, none⟩ = some (.int .i64 m.a)
  b : w.cell? ⟨g, 3, none⟩ = some (.int .i64 m.b)
  pc : w.cell? ⟨g, 4, none⟩ = some (.int .i64 m.pc)
  sp : w.cell? ⟨g, 5, none⟩ = some (.int .i64 m.sp)
  z : w.cell? ⟨g, 6, none⟩ = some (.bool m.z)
  c : w.cell? ⟨g, 7, none⟩ = some (.bool m.c)
  e : w.cell? ⟨g, 8, none⟩ = some (.bool m.e)
  h : w.cell? ⟨g, 9, none⟩ = some (.bool m.h)
  s : w.cell? ⟨g, 10, none⟩ = some (.bool m.s)
  fl : w.cell? ⟨g, 11, none⟩ = some (.int .i64 m.fl)
  ms : w.cell? ⟨g, 12, none⟩ = some (.int .i64 m.ms)
  ky : w.cell? ⟨g, 13, none⟩ = some (.int .i64 m.ky)
  tc : w.cell? ⟨g, 14, none⟩ = some (.int .i64 m.t.c)
  tv : w.cell? ⟨g, 15, none⟩ = some (.int .i64 m.t.v)
  ts : w.cell? ⟨g, 16, none⟩ = some (.int .i64 m.t.s)
  tm : w.cell? ⟨g, 17, none⟩ = some (.int .i64 m.t.m)
  pd : w.cell? ⟨g, 18, none⟩ = some (.int .i64 m.p.d)
  pb : w.cell? ⟨g, 19, none⟩ = some (.bool m.p.b)
  pl : w.cell? ⟨g, 20, none⟩ = some (.bool m.p.l)
  pn : w.cell? ⟨g, 21, none⟩ = some (.int .i64 m.p.n)
  px : w.cell? ⟨g, 22, none⟩ = some (.int .i64 m.p.x)
  pt : w.cell? ⟨g, 23, none⟩ = some (.bool m.p.t)
  k : w.cell? ⟨g, 24, none⟩ = some (.int .i64 m.k)
theorem Cs.at {w : World} {g : Nat} {cs : Array Value} {T : TypeId} {vr va : Value} {m : Mc} (hk : Cs cs vr va m) (hr : Row w g cs T) : Cw w g vr va m :=
  ⟨(hr.cell 0).trans hk.vr, (hr.cell 1).trans hk.va, (hr.cell 2).trans hk.a, (hr.cell 3).trans hk.b, (hr.cell 4).trans hk.pc, (hr.cell 5).trans hk.sp, (hr.cell 6).trans hk.z, (hr.cell 7).trans hk.c, (hr.cell 8).trans hk.e, (hr.cell 9).trans hk.h, (hr.cell 10).trans hk.s, (hr.cell 11).trans hk.fl, (hr.cell 12).trans hk.ms, (hr.cell 13).trans hk.ky, (hr.cell 14).trans hk.tc, (hr.cell 15).trans hk.tv, (hr.cell 16).trans hk.ts, (hr.cell 17).trans hk.tm, (hr.cell 18).trans hk.pd, (hr.cell 19).trans hk.pb, (hr.cell 20).trans hk.pl, (hr.cell 21).trans hk.pn, (hr.cell 22).trans hk.px, (hr.cell 23).trans hk.pt, (hr.cell 24).trans hk.k⟩
end Go.Proofs.YtghmkacamabndaaGreatDoor.Mem
namespace Go.Proofs.YtghmkacamabndaaGreatDoor.Mem
open Go.ChangeShapes Go.WideShapes Go.RowKit Base Num Slc Rw Tmr Srl Rom RomOf

abbrev nil64 : Value := .slice none 0 0
abbrev MRow (w : World) (g : Nat) (x y : Value) (m : Mc) : Prop := Row w g (m.cells x y) 30
theorem cells_one {v : Value} (h : v.oneCell' = true) : v.cells.toList = [v] := by
  cases v <;> first | rfl | (simp [Value.oneCell'] at h)
theorem one_own {base : Nat} {w : World} {v : Value} {l : List Int} (h : Own base w v l) : v.oneCell' = true := one_sl h.sl
theorem all_one {x y : Value} (hx : x.oneCell' = true) (hy : y.oneCell' = true) (m : Mc) : (m.cells x y).all (·.oneCell') = true := by
  unfold Value.oneCell' at hx hy
  simp only [Mc.cells, List.all_toArray, List.all_cons, List.all_nil, Value.oneCell', hx, hy, Bool.and_true]
theorem info_s : (Tryz.prog.info? 24).map (·.size) = some 1 := by kernel_rfl
theorem info_i : (Tryz.prog.info? 2).map (·.size) = some 1 := by kernel_rfl
theorem info_b : (Tryz.prog.info? 4).map (·.size) = some 1 := by kernel_rfl
theorem info_t : (Tryz.prog.info? 26).map (·.size) = some 4 := by kernel_rfl
theorem info_p : (Tryz.prog.info? 28).map (·.size) = some 6 := by kernel_rfl
section
variable {ops : Array Oper} {rest : List Oper} {o : Oper} {a : Act} {w : World} {Q : Exit → Act → World → Prop} {x y : Operand} {g k : Nat} {T : TypeId} {v vr va : Value} {m : Mc}
theorem al_mc (hgd : o.guard = none) (ho : o.op = .alloc 30)
    (h : ∀ w', MRow w' w.heap.size nil64 nil64 Mc.nul → Below w.heap.size w w' → wpList Tryz.prog ops Q rest (a.put o.dst (.pointer (some ⟨w.heap.size, 0, none⟩))) w') : wpList Tryz.prog ops Q (o :: rest) a w :=
  wpList_plain hgd fun _ hK => by
    have e : (execOp a.eval o).run Tryz.prog w = .ok (.value (.pointer (some ⟨w.heap.size, 0, none⟩))) (w.alloc (.cells (Mc.nul.cells nil64 nil64) 30)) := by
      unfold execOp
      rw [ho]
      simp [go_sem, Mc.cells, Mc.nul, Tm.nul, Sr.nul]
    unfold Oper.wp
    rw [e]
    exact hK _ _ (h _ (Row.new _ _ _) ((Below.refl _ _).alloc (Nat.le_refl _) _))
theorem box_m (hgd : o.guard = none) (ho : o.op = .box 30 x) (hx : a.eval x = m.val vr va)
    (h : ∀ w', MRow w' w.heap.size vr va m → Below w.heap.size w w' → wpList Tryz.prog ops Q rest (a.put o.dst (.pointer (some ⟨w.heap.size, 0, none⟩))) w') : wpList Tryz.prog ops Q (o :: rest) a w :=
  box_mc hgd ho hx (Cs.of vr va m) h
theorem ld_mc (hgd : o.guard = none) (ho : o.op = .load 30 x) (hx : a.eval x = .pointer (some ⟨g, 0, none⟩)) (hr : MRow w g vr va m)
    (h : wpList Tryz.prog ops Q rest (a.put o.dst (m.val vr va)) w) : wpList Tryz.prog ops Q (o :: rest) a w :=
  ld_row hgd _ x ho hx hr Tryz.underlying30 rfl info_mc h
theorem st_mc {m0 : Mc} {x0 y0 : Value} (hgd : o.guard = none) (ho : o.op = .store 30 x y) (hx : a.eval x = .pointer (some ⟨g, 0, none⟩)) (hy : a.eval y = m.val vr va) (hr : MRow w g x0 y0 m0) (h1 : vr.oneCell' = true) (h2 : va.oneCell' = true)
    (h : ∀ w', MRow w' g vr va m → Onto g w w' → w'.heap.size = w.heap.size → wpList Tryz.prog ops Q rest (a.put o.dst undef) w') : wpList Tryz.prog ops Q (o :: rest) a w :=
  st_row hgd _ x y ho hx hy hr info_mc rfl (all_one h1 h2 m) h
theorem st_rom (hgd : o.guard = none) (ho : o.op = .store 24 x y) (hx : a.eval x = .pointer (some ⟨g, 0, none⟩)) (hy : a.eval y = v) (hr : MRow w g vr va m) (h1 : v.oneCell' = true) (l : List Int)
    (h : ∀ w', MRow w' g v va { m with rom := l } → Onto g w w' → w'.heap.size = w.heap.size → wpList Tryz.prog ops Q rest (a.put o.dst undef) w') : wpList Tryz.prog ops Q (o :: rest) a w :=
  st_in (vs := [v]) (cs' := Mc.cells v va { m with rom := l }) hgd ho hx hy hr (cells_one h1) info_s rfl (by simp [h1]) rfl h
theorem st_ram (hgd : o.guard = none) (ho : o.op = .store 24 x y) (hx : a.eval x = .pointer (some ⟨g, 1, none⟩)) (hy : a.eval y = v) (hr : MRow w g vr va m) (h1 : v.oneCell' = true) (l : List Int)
    (h : ∀ w', MRow w' g vr v { m with ram := l } → Onto g w w' → w'.heap.size = w.heap.size → wpList Tryz.prog ops Q rest (a.put o.dst undef) w') : wpList Tryz.prog ops Q (o :: rest) a w :=
  st_in (vs := [v]) (cs' := Mc.cells vr v { m with ram := l }) hgd ho hx hy hr (cells_one h1) info_s rfl (by simp [h1]) rfl h
theorem st_num {z : Int} {m' : Mc} (hgd : o.guard = none) (ho : o.op = .store 2 x y) (hx : a.eval x = .pointer (some ⟨g, k, none⟩)) (hy : a.eval y = .int .i64 z) (hr : MRow w g vr va m) (hk : decide (k < 25) = true)
    (hcs : (m.cells vr va).setIfInBounds k (.int .i64 z) = m'.cells vr va)
    (h : ∀ w', MRow w' g vr va m' → Onto g w w' → w'.heap.size = w.heap.size → wpList Tryz.prog ops Q rest (a.put o.dst undef) w') : wpList Tryz.prog ops Q (o :: rest) a w :=
  st_in (vs := [.int .i64 z]) hgd ho hx hy hr rfl info_i (by rw [Mc.size]; exact hk) rfl hcs h
theorem st_yes {z : Bool} {m' : Mc} (hgd : o.guard = none) (ho : o.op = .store 4 x y) (hx : a.eval x = .pointer (some ⟨g, k, none⟩)) (hy : a.eval y = .bool z) (hr : MRow w g vr va m) (hk : decide (k < 25) = true)
    (hcs : (m.cells vr va).setIfInBounds k (.bool z) = m'.cells vr va)
    (h : ∀ w', MRow w' g vr va m' → Onto g w w' → w'.heap.size = w.heap.size → wpList Tryz.prog ops Q rest (a.put o.dst undef) w') : wpList Tryz.prog ops Q (o :: rest) a w :=
  st_in (vs := [.bool z]) hgd ho hx hy hr rfl info_b (by rw [Mc.size]; exact hk) rfl hcs h
theorem st_port' {s : Sr} (hgd : o.guard = none) (ho : o.op = .store 28 x y) (hx : a.eval x = .pointer (some ⟨g, 18, none⟩)) (hy : a.eval y = s.val) (hr : MRow w g vr va m)
    (h : ∀ w', MRow w' g vr va { m with p := s } → Onto g w w' → w'.heap.size = w.heap.size → wpList Tryz.prog ops Q rest (a.put o.dst undef) w') : wpList Tryz.prog ops Q (o :: rest) a w :=
  st_in (vs := [.int .i64 s.d, .bool s.b, .bool s.l, .int .i64 s.n, .int .i64 s.x, .bool s.t]) (cs' := Mc.cells vr va { m with p := s }) hgd ho hx hy hr rfl info_p rfl rfl rfl h
theorem st_time' {t : Tm} (hgd : o.guard = none) (ho : o.op = .store 26 x y) (hx : a.eval x = .pointer (some ⟨g, 14, none⟩)) (hy : a.eval y = t.val) (hr : MRow w g vr va m)
    (h : ∀ w', MRow w' g vr va { m with t := t } → Onto g w w' → w'.heap.size = w.heap.size → wpList Tryz.prog ops Q rest (a.put o.dst undef) w') : wpList Tryz.prog ops Q (o :: rest) a w :=
  st_in (vs := [.int .i64 t.c, .int .i64 t.v, .int .i64 t.s, .int .i64 t.m]) (cs' := Mc.cells vr va { m with t := t }) hgd ho hx hy hr rfl info_t rfl rfl rfl h
theorem ld_time (hgd : o.guard = none) (ho : o.op = .load 26 x) (hx : a.eval x = .pointer (some ⟨g, 14, none⟩)) (hr : MRow w g vr va m) (h : wpList Tryz.prog ops Q rest (a.put o.dst m.t.val) w) : wpList Tryz.prog ops Q (o :: rest) a w :=
  ld_t hgd ho hx hr (Cs.of vr va m) h
theorem ld_ser (hgd : o.guard = none) (ho : o.op = .load 28 x) (hx : a.eval x = .pointer (some ⟨g, 18, none⟩)) (hr : MRow w g vr va m) (h : wpList Tryz.prog ops Q rest (a.put o.dst m.p.val) w) : wpList Tryz.prog ops Q (o :: rest) a w :=
  ld_p hgd ho hx hr (Cs.of vr va m) h
theorem ret_mc {fn : Func} {R : Ending → World → Prop} {q : Tmp} (h : fn.results = #[.cell q 30]) (hp : a.tmps.getD q undef = .pointer (some ⟨g, 0, none⟩)) (hr : MRow w g vr va m) (hde : a.defers = []) (hR : R (.returned (m.val vr va)) w) :
    bodyPost Tryz.prog fn R .ret a w := ret_row h hp hr Tryz.underlying30 rfl info_mc hde hR
end
theorem cw {w : World} {g : Nat} {vr va : Value} {m : Mc} (h : MRow w g vr va m) : Cw w g vr va m := (Cs.of vr va m).at h
end Go.Proofs.YtghmkacamabndaaGreatDoor.Mem
namespace Go.Proofs.YtghmkacamabndaaGreatDoor.Mem
open Go.ChangeShapes Go.WideShapes Go.RowKit Base Num Slc Rw Tmr Srl Rom RomOf Reg

theorem built_nul : Tryz.prog.built 30 [] = some (Mc.nul.cells nil64 nil64) := by kernel_rfl
section
variable {ops : Array Oper} {rest : List Oper} {o : Oper} {a : Act} {w : World} {Q : Exit → Act → World → Prop}
theorem bd_nul (hgd : o.guard = none) (ho : o.op = .build 30 #[]) (h : wpList Tryz.prog ops Q rest (a.put o.dst (Mc.nul.val nil64 nil64)) w) : wpList Tryz.prog ops Q (o :: rest) a w :=
  wpList_plain hgd fun _ hK => build_op (parts := []) (vals := []) ho rfl built_nul (hK _ _ h)
theorem ret_mc2 {fn : Func} {R : Ending → World → Prop} {q u : Tmp} {g : Nat} {vr va v : Value} {m : Mc} (h : fn.results = #[.cell q 30, .tmp u]) (hp : a.tmps.getD q undef = .pointer (some ⟨g, 0, none⟩)) (hr : MRow w g vr va m) (hde : a.defers = []) (hv : a.tmps.getD u undef = v)
    (hR : R (.returned (.tuple #[m.val vr va, v])) w) : bodyPost Tryz.prog fn R .ret a w := ret_row_tmp h hp hr Tryz.underlying30 rfl info_mc hde hv hR
end
def Apart (x y : Value) : Prop := ∀ k, x.ownBlock = some k → y.ownBlock ≠ some k
end Go.Proofs.YtghmkacamabndaaGreatDoor.Mem
