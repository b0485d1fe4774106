/-
  The program's operations, one by one: each does to the deed what the document's line tells.
-/
import Derived.Test.YtmbncgeiaijnpaaGreatDoorDe
namespace Go.Proofs.YtmbncgeiaijnpaaGreatDoor.Mem
open Go.ChangeShapes Go.WideShapes Go.RowKit Base Num Slc Rw Tmr Srl Rom RomOf Opl Reg
set_option linter.unusedVariables false
set_option linter.unusedSimpArgs false
section
variable {base : Nat} {w : World} {g : Nat} {x y : Value} {m : Mc} {n : Int}
set_option maxRecDepth 100000 in
theorem popped_impl (h : DSt base w g x y m n (-1)) (hok : m.ok = true) :
    Calls Tryz.prog 100 #[.pointer (some ⟨g, 0, none⟩)] w fun e w' => e = .returned (.int .i64 m.top) ∧ Done base w w' g m.popd n (-1) := by
  have e1 : m.readAt m.sp = m.top := readAt_ok hok (okm.1 hok).sp
  have e2 := add_one (okm.1 hok).sp
  go_enter Tryz.func100, Tryz.ntmps100
  go_wp2_with fail
  refine region_last (by kernel_rfl) (by kernel_rfl) 10 (by decide) (by kernel_rfl) (by kernel_rfl) (fun W => DSt base W g x y m n (-1) ∧ Onto g w W) (fun W => DSt base W g x y m n (-1) ∧ Onto g w W) [.pointer (some ⟨g, 0, none⟩), .pointer (some ⟨g, 0, none⟩), .pointer (some ⟨g, 0, none⟩), m.val x y, .pointer (some ⟨g, 0, none⟩), .pointer (some ⟨g, 0, none⟩), .pointer (some ⟨g, 0, none⟩), .pointer (some ⟨g, 5, none⟩), .int .i64 m.sp, .int .i64 (m.readAt m.sp), .int .i64 (m.readAt m.sp)] ⟨h.drew, (Onto.refl g w).drew⟩ ?step ?last ?done
  case step =>
    intro L ix o' A W hne hi hI hg hd
    have hin : ix < 11 := by
      by_cases hl : ix < 11
      · exact hl
      · simp [hl] at hi
    rcases ix with _ | ix
    · obtain rfl := (Option.some.inj hi).symm
      have e0 : A.eval (.tmp 0) = .pointer (some ⟨g, 0, none⟩) := hI.old 0 (by kernel_rfl)
      exact at_op rfl rfl (move_op rfl ⟨_, rfl, e0, hg⟩)
    rcases ix with _ | ix
    · obtain rfl := (Option.some.inj hi).symm
      have e0 : A.eval (.tmp 4) = .pointer (some ⟨g, 0, none⟩) := hI.val hd 0 4 rfl rfl (by kernel_rfl)
      exact at_op rfl rfl (nil_op rfl e0 ⟨_, rfl, rfl, hg⟩)
    rcases ix with _ | ix
    · obtain rfl := (Option.some.inj hi).symm
      have e0 : A.eval (.tmp 5) = .pointer (some ⟨g, 0, none⟩) := hI.val hd 1 5 rfl rfl (by kernel_rfl)
      refine at_op rfl rfl (val_op (v := .pointer (some ⟨g, 0, none⟩)) ?_ ⟨_, rfl, rfl, hg⟩)
      unfold execOp
      simp only [List.getElem_toArray, List.getElem_cons_zero, List.getElem_cons_succ, e0]
      simp [go_sem]
    rcases ix with _ | ix
    · obtain rfl := (Option.some.inj hi).symm
      have e0 : A.eval (.tmp 6) = .pointer (some ⟨g, 0, none⟩) := hI.val hd 2 6 rfl rfl (by kernel_rfl)
      exact at_op rfl rfl (lm_op rfl e0 hg.1.row ⟨_, rfl, rfl, hg⟩)
    rcases ix with _ | ix
    · obtain rfl := (Option.some.inj hi).symm
      have e0 : A.eval (.tmp 0) = .pointer (some ⟨g, 0, none⟩) := hI.old 0 (by kernel_rfl)
      exact at_op rfl rfl (move_op rfl ⟨_, rfl, e0, hg⟩)
    rcases ix with _ | ix
    · obtain rfl := (Option.some.inj hi).symm
      have e0 : A.eval (.tmp 8) = .pointer (some ⟨g, 0, none⟩) := hI.val hd 4 8 rfl rfl (by kernel_rfl)
      exact at_op rfl rfl (nil_op rfl e0 ⟨_, rfl, rfl, hg⟩)
    rcases ix with _ | ix
    · obtain rfl := (Option.some.inj hi).symm
      have e0 : A.eval (.tmp 9) = .pointer (some ⟨g, 0, none⟩) := hI.val hd 5 9 rfl rfl (by kernel_rfl)
      refine at_op rfl rfl (val_op (v := .pointer (some ⟨g, 0, none⟩)) ?_ ⟨_, rfl, rfl, hg⟩)
      unfold execOp
      simp only [List.getElem_toArray, List.getElem_cons_zero, List.getElem_cons_succ, e0]
      simp [go_sem]
    rcases ix with _ | ix
    · obtain rfl := (Option.some.inj hi).symm
      have e0 : A.eval (.tmp 10) = .pointer (some ⟨g, 0, none⟩) := hI.val hd 6 10 rfl rfl (by kernel_rfl)
      refine at_op rfl rfl (val_op (v := .pointer (some ⟨g, 5, none⟩)) ?_ ⟨_, rfl, rfl, hg⟩)
      unfold execOp
      simp only [List.getElem_toArray, List.getElem_cons_zero, List.getElem_cons_succ, e0]
      simp [go_sem]
    rcases ix with _ | ix
    · obtain rfl := (Option.some.inj hi).symm
      have e0 : A.eval (.tmp 11) = .pointer (some ⟨g, 5, none⟩) := hI.val hd 7 11 rfl rfl (by kernel_rfl)
      exact at_op rfl rfl (load_op rfl Tryz.underlying2 e0 (dw hg.1.row).sp ⟨_, rfl, rfl, hg⟩)
    rcases ix with _ | ix
    · obtain rfl := (Option.some.inj hi).symm
      have e0 : A.eval (.tmp 7) = m.val x y := hI.val hd 3 7 rfl rfl (by kernel_rfl)
      have e1 : A.eval (.tmp 12) = .int .i64 m.sp := hI.val hd 8 12 rfl rfl (by kernel_rfl)
      refine at_op rfl rfl (call_op rfl Tryz.func26 (by kernel_rfl) (by kernel_rfl) ?_)
      simp only [List.map_cons, List.map_nil, e0, e1]
      refine (readAt_impl _ m _ _ hg.1.sl).mono ?_
      rintro e w1 ⟨rfl, hb⟩
      exact ⟨_, rfl, _, rfl, rfl, hg.1.below hb, hg.2.trans (below_on hb)⟩
    rcases ix with _ | ix
    · exact absurd rfl hne
    omega
  case last =>
    intro L o' A W hi hI hg hd
    obtain rfl := (Option.some.inj hi).symm
    have e0 : A.eval (.tmp 13) = .int .i64 (m.readAt m.sp) := hI.val hd 9 13 rfl rfl (by kernel_rfl)
    exact at_op rfl rfl (assign_op rfl ⟨_, rfl, e0, hg⟩)
  case done =>
    intro A W hI hE
    have e0' : A.tmps.getD 0 undef = .pointer (some ⟨g, 0, none⟩) := hI.old 0 (by kernel_rfl)
    have e1' : A.tmps.getD 1 undef = undef := hI.old 1 (by kernel_rfl)
    have e2' : A.tmps.getD 2 undef = .int .i64 0 := hI.old 2 (by kernel_rfl)
    have e3' : A.tmps.getD 3 undef = .int .i64 (m.readAt m.sp) := hI.last 10 3 rfl
    have e4' : A.tmps.getD 4 undef = .pointer (some ⟨g, 0, none⟩) := hI.last 0 4 rfl
    have e5' : A.tmps.getD 5 undef = .pointer (some ⟨g, 0, none⟩) := hI.last 1 5 rfl
    have e6' : A.tmps.getD 6 undef = .pointer (some ⟨g, 0, none⟩) := hI.last 2 6 rfl
    have e7' : A.tmps.getD 7 undef = m.val x y := hI.last 3 7 rfl
    have e8' : A.tmps.getD 8 undef = .pointer (some ⟨g, 0, none⟩) := hI.last 4 8 rfl
    have e9' : A.tmps.getD 9 undef = .pointer (some ⟨g, 0, none⟩) := hI.last 5 9 rfl
    have e10' : A.tmps.getD 10 undef = .pointer (some ⟨g, 0, none⟩) := hI.last 6 10 rfl
    have e11' : A.tmps.getD 11 undef = .pointer (some ⟨g, 5, none⟩) := hI.last 7 11 rfl
    have e12' : A.tmps.getD 12 undef = .int .i64 m.sp := hI.last 8 12 rfl
    have e13' : A.tmps.getD 13 undef = .int .i64 (m.readAt m.sp) := hI.last 9 13 rfl
    have e14' : A.tmps.getD 14 undef = undef := hI.old 14 (by kernel_rfl)
    have e15' : A.tmps.getD 15 undef = undef := hI.old 15 (by kernel_rfl)
    have e16' : A.tmps.getD 16 undef = undef := hI.old 16 (by kernel_rfl)
    have e17' : A.tmps.getD 17 undef = undef := hI.old 17 (by kernel_rfl)
    have e18' : A.tmps.getD 18 undef = undef := hI.old 18 (by kernel_rfl)
    have e19' : A.tmps.getD 19 undef = undef := hI.old 19 (by kernel_rfl)
    have e20' : A.tmps.getD 20 undef = undef := hI.old 20 (by kernel_rfl)
    have e21' : A.tmps.getD 21 undef = undef := hI.old 21 (by kernel_rfl)
    have e22' : A.tmps.getD 22 undef = undef := hI.old 22 (by kernel_rfl)
    have e23' : A.tmps.getD 23 undef = undef := hI.old 23 (by kernel_rfl)
    have e24' : A.tmps.getD 24 undef = undef := hI.old 24 (by kernel_rfl)
    have hA := frame_lit A 25 hI.size
    have hde : A.defers = [] := hI.defers
    rw [hde, show List.range 25 = [0, 1, 2, 3, 4, 5, 6, 7, 8, 9, 10, 11, 12, 13, 14, 15, 16, 17, 18, 19, 20, 21, 22, 23, 24] from rfl] at hA
    simp only [List.map_cons, List.map_nil, e0', e1', e2', e3', e4', e5', e6', e7', e8', e9', e10', e11', e12', e13', e14', e15', e16', e17', e18', e19', e20', e21', e22', e23', e24'] at hA
    rw [hA]
    clear hA e0' e1' e2' e3' e4' e5' e6' e7' e8' e9' e10' e11' e12' e13' e14' e15' e16' e17' e18' e19' e20' e21' e22' e23' e24' hI hde
    obtain ⟨hD, hO⟩ := hE
    have hc := (dw hD.row).sp
    rw [e1]
    go_wp2_with (first
      | (go_at_call 28; refine (placeBehind_impl _ _ _).mono ?_; rintro e w0 ⟨rfl, rfl⟩; rw [e2])
      | (refine st_dn (m' := m.popd) (n' := n) (o' := -1) rfl rfl rfl rfl hD.row rfl rfl ?_; intro w1 r1 o1 s1))
    go_ret
    exact ⟨rfl, .mk (hD.set r1 o1 rfl rfl) (hO.trans o1)⟩
theorem nop_impl (h : DSt base w g x y m n (-1)) (hok : m.ok = true) (hn : bok n = true) :
    Calls Tryz.prog 66 #[.pointer (some ⟨g, 0, none⟩)] w fun e w' => e = .returned (.tuple #[]) ∧ Done base w w' g (m.does n 0).1 n (m.does n 0).2 := by
  go_enter Tryz.func66, Tryz.ntmps66
  go_wp2
  refine ret_unit rfl rfl ?_
  exact ⟨rfl, .mk h (Onto.refl _ _)⟩
theorem lda_impl (h : DSt base w g x y m n (-1)) (hok : m.ok = true) (hn : bok n = true) :
    Calls Tryz.prog 67 #[.pointer (some ⟨g, 0, none⟩)] w fun e w' => e = .returned (.tuple #[]) ∧ Done base w w' g (m.does n 1).1 n (m.does n 1).2 := by
  have hc := (dw h.row).n
  go_enter Tryz.func67, Tryz.ntmps67
  go_wp2_with (refine st_dn (m' := (m.does n 1).1) (n' := n) (o' := -1) rfl rfl rfl rfl h.row rfl rfl ?_; intro w1 r1 o1 s1)
  refine ret_unit rfl rfl ?_
  exact ⟨rfl, .mk (h.set r1 o1 rfl rfl) o1⟩
theorem ldb_impl (h : DSt base w g x y m n (-1)) (hok : m.ok = true) (hn : bok n = true) :
    Calls Tryz.prog 68 #[.pointer (some ⟨g, 0, none⟩)] w fun e w' => e = .returned (.tuple #[]) ∧ Done base w w' g (m.does n 2).1 n (m.does n 2).2 := by
  have hc := (dw h.row).n
  go_enter Tryz.func68, Tryz.ntmps68
  go_wp2_with (refine st_dn (m' := (m.does n 2).1) (n' := n) (o' := -1) rfl rfl rfl rfl h.row rfl rfl ?_; intro w1 r1 o1 s1)
  refine ret_unit rfl rfl ?_
  exact ⟨rfl, .mk (h.set r1 o1 rfl rfl) o1⟩
theorem mab_impl (h : DSt base w g x y m n (-1)) (hok : m.ok = true) (hn : bok n = true) :
    Calls Tryz.prog 69 #[.pointer (some ⟨g, 0, none⟩)] w fun e w' => e = .returned (.tuple #[]) ∧ Done base w w' g (m.does n 3).1 n (m.does n 3).2 := by
  have hc := (dw h.row).b
  go_enter Tryz.func69, Tryz.ntmps69
  go_wp2_with (refine st_dn (m' := (m.does n 3).1) (n' := n) (o' := -1) rfl rfl rfl rfl h.row rfl rfl ?_; intro w1 r1 o1 s1)
  refine ret_unit rfl rfl ?_
  exact ⟨rfl, .mk (h.set r1 o1 rfl rfl) o1⟩
theorem mba_impl (h : DSt base w g x y m n (-1)) (hok : m.ok = true) (hn : bok n = true) :
    Calls Tryz.prog 70 #[.pointer (some ⟨g, 0, none⟩)] w fun e w' => e = .returned (.tuple #[]) ∧ Done base w w' g (m.does n 4).1 n (m.does n 4).2 := by
  have hc := (dw h.row).a
  go_enter Tryz.func70, Tryz.ntmps70
  go_wp2_with (refine st_dn (m' := (m.does n 4).1) (n' := n) (o' := -1) rfl rfl rfl rfl h.row rfl rfl ?_; intro w1 r1 o1 s1)
  refine ret_unit rfl rfl ?_
  exact ⟨rfl, .mk (h.set r1 o1 rfl rfl) o1⟩
set_option maxRecDepth 100000 in
theorem get_impl (h : DSt base w g x y m n (-1)) (hok : m.ok = true) (hn : bok n = true) :
    Calls Tryz.prog 71 #[.pointer (some ⟨g, 0, none⟩)] w fun e w' => e = .returned (.tuple #[]) ∧ Done base w w' g (m.does n 5).1 n (m.does n 5).2 := by
  go_enter Tryz.func71, Tryz.ntmps71
  go_wp2_with fail
  refine region_last (by kernel_rfl) (by kernel_rfl) 13 (by decide) (by kernel_rfl) (by kernel_rfl) (fun W => DSt base W g x y m n (-1) ∧ Onto g w W) (fun W => Done base w W g (m.does n 5).1 n (m.does n 5).2) [.pointer (some ⟨g, 0, none⟩), .pointer (some ⟨g, 0, none⟩), .pointer (some ⟨g, 0, none⟩), .pointer (some ⟨g, 0, none⟩), m.val x y, .pointer (some ⟨g, 0, none⟩), .pointer (some ⟨g, 0, none⟩), .pointer (some ⟨g, 25, none⟩), .int .i64 n, .int .i64 (m.readAt n), .pointer (some ⟨g, 0, none⟩), .pointer (some ⟨g, 0, none⟩), .pointer (some ⟨g, 2, none⟩), undef] ⟨h.drew, (Onto.refl g w).drew⟩ ?step ?last ?done
  case step =>
    intro L ix o' A W hne hi hI hg hd
    have hin : ix < 14 := by
      by_cases hl : ix < 14
      · exact hl
      · simp [hl] at hi
    rcases ix with _ | ix
    · obtain rfl := (Option.some.inj hi).symm
      have e0 : A.eval (.tmp 0) = .pointer (some ⟨g, 0, none⟩) := hI.old 0 (by kernel_rfl)
      exact at_op rfl rfl (move_op rfl ⟨_, rfl, e0, hg⟩)
    rcases ix with _ | ix
    · obtain rfl := (Option.some.inj hi).symm
      have e0 : A.eval (.tmp 0) = .pointer (some ⟨g, 0, none⟩) := hI.old 0 (by kernel_rfl)
      exact at_op rfl rfl (move_op rfl ⟨_, rfl, e0, hg⟩)
    rcases ix with _ | ix
    · obtain rfl := (Option.some.inj hi).symm
      have e0 : A.eval (.tmp 3) = .pointer (some ⟨g, 0, none⟩) := hI.val hd 1 3 rfl rfl (by kernel_rfl)
      exact at_op rfl rfl (nil_op rfl e0 ⟨_, rfl, rfl, hg⟩)
    rcases ix with _ | ix
    · obtain rfl := (Option.some.inj hi).symm
      have e0 : A.eval (.tmp 4) = .pointer (some ⟨g, 0, none⟩) := hI.val hd 2 4 rfl rfl (by kernel_rfl)
      refine at_op rfl rfl (val_op (v := .pointer (some ⟨g, 0, none⟩)) ?_ ⟨_, rfl, rfl, hg⟩)
      unfold execOp
      simp only [List.getElem_toArray, List.getElem_cons_zero, List.getElem_cons_succ, e0]
      simp [go_sem]
    rcases ix with _ | ix
    · obtain rfl := (Option.some.inj hi).symm
      have e0 : A.eval (.tmp 5) = .pointer (some ⟨g, 0, none⟩) := hI.val hd 3 5 rfl rfl (by kernel_rfl)
      exact at_op rfl rfl (lm_op rfl e0 hg.1.row ⟨_, rfl, rfl, hg⟩)
    rcases ix with _ | ix
    · obtain rfl := (Option.some.inj hi).symm
      have e0 : A.eval (.tmp 0) = .pointer (some ⟨g, 0, none⟩) := hI.old 0 (by kernel_rfl)
      exact at_op rfl rfl (move_op rfl ⟨_, rfl, e0, hg⟩)
    rcases ix with _ | ix
    · obtain rfl := (Option.some.inj hi).symm
      have e0 : A.eval (.tmp 7) = .pointer (some ⟨g, 0, none⟩) := hI.val hd 5 7 rfl rfl (by kernel_rfl)
      exact at_op rfl rfl (nil_op rfl e0 ⟨_, rfl, rfl, hg⟩)
    rcases ix with _ | ix
    · obtain rfl := (Option.some.inj hi).symm
      have e0 : A.eval (.tmp 8) = .pointer (some ⟨g, 0, none⟩) := hI.val hd 6 8 rfl rfl (by kernel_rfl)
      refine at_op rfl rfl (val_op (v := .pointer (some ⟨g, 25, none⟩)) ?_ ⟨_, rfl, rfl, hg⟩)
      unfold execOp
      simp only [List.getElem_toArray, List.getElem_cons_zero, List.getElem_cons_succ, e0]
      simp [go_sem]
    rcases ix with _ | ix
    · obtain rfl := (Option.some.inj hi).symm
      have e0 : A.eval (.tmp 9) = .pointer (some ⟨g, 25, none⟩) := hI.val hd 7 9 rfl rfl (by kernel_rfl)
      exact at_op rfl rfl (load_op rfl Tryz.underlying2 e0 (dw hg.1.row).n ⟨_, rfl, rfl, hg⟩)
    rcases ix with _ | ix
    · obtain rfl := (Option.some.inj hi).symm
      have e0 : A.eval (.tmp 6) = m.val x y := hI.val hd 4 6 rfl rfl (by kernel_rfl)
      have e1 : A.eval (.tmp 10) = .int .i64 n := hI.val hd 8 10 rfl rfl (by kernel_rfl)
      refine at_op rfl rfl (call_op rfl Tryz.func26 (by kernel_rfl) (by kernel_rfl) ?_)
      simp only [List.map_cons, List.map_nil, e0, e1]
      refine (readAt_impl _ m _ _ hg.1.sl).mono ?_
      rintro e w1 ⟨rfl, hb⟩
      exact ⟨_, rfl, _, rfl, rfl, hg.1.below hb, hg.2.trans (below_on hb)⟩
    rcases ix with _ | ix
    · obtain rfl := (Option.some.inj hi).symm
      have e0 : A.eval (.tmp 2) = .pointer (some ⟨g, 0, none⟩) := hI.val hd 0 2 rfl rfl (by kernel_rfl)
      exact at_op rfl rfl (nil_op rfl e0 ⟨_, rfl, rfl, hg⟩)
    rcases ix with _ | ix
    · obtain rfl := (Option.some.inj hi).symm
      have e0 : A.eval (.tmp 12) = .pointer (some ⟨g, 0, none⟩) := hI.val hd 10 12 rfl rfl (by kernel_rfl)
      refine at_op rfl rfl (val_op (v := .pointer (some ⟨g, 0, none⟩)) ?_ ⟨_, rfl, rfl, hg⟩)
      unfold execOp
      simp only [List.getElem_toArray, List.getElem_cons_zero, List.getElem_cons_succ, e0]
      simp [go_sem]
    rcases ix with _ | ix
    · obtain rfl := (Option.some.inj hi).symm
      have e0 : A.eval (.tmp 13) = .pointer (some ⟨g, 0, none⟩) := hI.val hd 11 13 rfl rfl (by kernel_rfl)
      refine at_op rfl rfl (val_op (v := .pointer (some ⟨g, 2, none⟩)) ?_ ⟨_, rfl, rfl, hg⟩)
      unfold execOp
      simp only [List.getElem_toArray, List.getElem_cons_zero, List.getElem_cons_succ, e0]
      simp [go_sem]
    rcases ix with _ | ix
    · exact absurd rfl hne
    omega
  case last =>
    intro L o' A W hi hI hg hd
    obtain rfl := (Option.some.inj hi).symm
    have e0 : A.eval (.tmp 14) = .pointer (some ⟨g, 2, none⟩) := hI.val hd 12 14 rfl rfl (by kernel_rfl)
    have e1 : A.eval (.tmp 11) = .int .i64 (m.readAt n) := hI.val hd 9 11 rfl rfl (by kernel_rfl)
    rw [readAt_ok hok hn] at e1
    exact at_op rfl rfl (sd_op (m' := (m.does n 5).1) (n' := n) (o' := -1) rfl e0 e1 hg.1.row rfl rfl (fun w' hr ho => ⟨_, rfl, rfl, .mk (hg.1.set hr ho rfl rfl) (hg.2.trans ho)⟩))
  case done =>
    intro A W hI hE
    exact ret_unit rfl hI.defers ⟨rfl, hE⟩
set_option maxRecDepth 100000 in
theorem put_impl (h : DSt base w g x y m n (-1)) (hok : m.ok = true) (hn : bok n = true) :
    Calls Tryz.prog 72 #[.pointer (some ⟨g, 0, none⟩)] w fun e w' => e = .returned (.tuple #[]) ∧ Done base w w' g (m.does n 6).1 n (m.does n 6).2 := by
  go_enter Tryz.func72, Tryz.ntmps72
  go_wp2_with fail
  refine region_last (by kernel_rfl) (by kernel_rfl) 10 (by decide) (by kernel_rfl) (by kernel_rfl) (fun W => DSt base W g x y m n (-1) ∧ Onto g w W) (fun W => Done base w W g (m.does n 6).1 n (m.does n 6).2) [.pointer (some ⟨g, 0, none⟩), .pointer (some ⟨g, 0, none⟩), .pointer (some ⟨g, 0, none⟩), .pointer (some ⟨g, 25, none⟩), .int .i64 n, .pointer (some ⟨g, 0, none⟩), .pointer (some ⟨g, 0, none⟩), .pointer (some ⟨g, 0, none⟩), .pointer (some ⟨g, 2, none⟩), .int .i64 m.a, .tuple #[]] ⟨h.drew, (Onto.refl g w).drew⟩ ?step ?last ?done
  case step =>
    intro L ix o' A W hne hi hI hg hd
    have hin : ix < 11 := by
      by_cases hl : ix < 11
      · exact hl
      · simp [hl] at hi
    rcases ix with _ | ix
    · obtain rfl := (Option.some.inj hi).symm
      have e0 : A.eval (.tmp 0) = .pointer (some ⟨g, 0, none⟩) := hI.old 0 (by kernel_rfl)
      exact at_op rfl rfl (move_op rfl ⟨_, rfl, e0, hg⟩)
    rcases ix with _ | ix
    · obtain rfl := (Option.some.inj hi).symm
      have e0 : A.eval (.tmp 0) = .pointer (some ⟨g, 0, none⟩) := hI.old 0 (by kernel_rfl)
      exact at_op rfl rfl (move_op rfl ⟨_, rfl, e0, hg⟩)
    rcases ix with _ | ix
    · obtain rfl := (Option.some.inj hi).symm
      have e0 : A.eval (.tmp 3) = .pointer (some ⟨g, 0, none⟩) := hI.val hd 1 3 rfl rfl (by kernel_rfl)
      exact at_op rfl rfl (nil_op rfl e0 ⟨_, rfl, rfl, hg⟩)
    rcases ix with _ | ix
    · obtain rfl := (Option.some.inj hi).symm
      have e0 : A.eval (.tmp 4) = .pointer (some ⟨g, 0, none⟩) := hI.val hd 2 4 rfl rfl (by kernel_rfl)
      refine at_op rfl rfl (val_op (v := .pointer (some ⟨g, 25, none⟩)) ?_ ⟨_, rfl, rfl, hg⟩)
      unfold execOp
      simp only [List.getElem_toArray, List.getElem_cons_zero, List.getElem_cons_succ, e0]
      simp [go_sem]
    rcases ix with _ | ix
    · obtain rfl := (Option.some.inj hi).symm
      have e0 : A.eval (.tmp 5) = .pointer (some ⟨g, 25, none⟩) := hI.val hd 3 5 rfl rfl (by kernel_rfl)
      exact at_op rfl rfl (load_op rfl Tryz.underlying2 e0 (dw hg.1.row).n ⟨_, rfl, rfl, hg⟩)
    rcases ix with _ | ix
    · obtain rfl := (Option.some.inj hi).symm
      have e0 : A.eval (.tmp 0) = .pointer (some ⟨g, 0, none⟩) := hI.old 0 (by kernel_rfl)
      exact at_op rfl rfl (move_op rfl ⟨_, rfl, e0, hg⟩)
    rcases ix with _ | ix
    · obtain rfl := (Option.some.inj hi).symm
      have e0 : A.eval (.tmp 7) = .pointer (some ⟨g, 0, none⟩) := hI.val hd 5 7 rfl rfl (by kernel_rfl)
      exact at_op rfl rfl (nil_op rfl e0 ⟨_, rfl, rfl, hg⟩)
    rcases ix with _ | ix
    · obtain rfl := (Option.some.inj hi).symm
      have e0 : A.eval (.tmp 8) = .pointer (some ⟨g, 0, none⟩) := hI.val hd 6 8 rfl rfl (by kernel_rfl)
      refine at_op rfl rfl (val_op (v := .pointer (some ⟨g, 0, none⟩)) ?_ ⟨_, rfl, rfl, hg⟩)
      unfold execOp
      simp only [List.getElem_toArray, List.getElem_cons_zero, List.getElem_cons_succ, e0]
      simp [go_sem]
    rcases ix with _ | ix
    · obtain rfl := (Option.some.inj hi).symm
      have e0 : A.eval (.tmp 9) = .pointer (some ⟨g, 0, none⟩) := hI.val hd 7 9 rfl rfl (by kernel_rfl)
      refine at_op rfl rfl (val_op (v := .pointer (some ⟨g, 2, none⟩)) ?_ ⟨_, rfl, rfl, hg⟩)
      unfold execOp
      simp only [List.getElem_toArray, List.getElem_cons_zero, List.getElem_cons_succ, e0]
      simp [go_sem]
    rcases ix with _ | ix
    · obtain rfl := (Option.some.inj hi).symm
      have e0 : A.eval (.tmp 10) = .pointer (some ⟨g, 2, none⟩) := hI.val hd 8 10 rfl rfl (by kernel_rfl)
      exact at_op rfl rfl (load_op rfl Tryz.underlying2 e0 (dw hg.1.row).a ⟨_, rfl, rfl, hg⟩)
    rcases ix with _ | ix
    · exact absurd rfl hne
    omega
  case last =>
    intro L o' A W hi hI hg hd
    obtain rfl := (Option.some.inj hi).symm
    have e0 : A.eval (.tmp 2) = .pointer (some ⟨g, 0, none⟩) := hI.val hd 0 2 rfl rfl (by kernel_rfl)
    have e1 : A.eval (.tmp 6) = .int .i64 n := hI.val hd 4 6 rfl rfl (by kernel_rfl)
    have e2 : A.eval (.tmp 11) = .int .i64 m.a := hI.val hd 9 11 rfl rfl (by kernel_rfl)
    refine at_op rfl rfl (call_op rfl Tryz.func73 (by kernel_rfl) (by kernel_rfl) ?_)
    simp only [List.map_cons, List.map_nil, e0, e1, e2]
    refine (write_impl hg.1 _ _).mono ?_
    rintro e w1 ⟨rfl, x1, y1, h1, o1⟩
    rw [writtenAt_ok hok hn (okm.1 hok).a] at h1
    exact ⟨_, rfl, _, rfl, rfl, .mk h1 (hg.2.trans o1)⟩
  case done =>
    intro A W hI hE
    exact ret_unit rfl hI.defers ⟨rfl, hE⟩
set_option maxRecDepth 100000 in
theorem gib_impl (h : DSt base w g x y m n (-1)) (hok : m.ok = true) (hn : bok n = true) :
    Calls Tryz.prog 74 #[.pointer (some ⟨g, 0, none⟩)] w fun e w' => e = .returned (.tuple #[]) ∧ Done base w w' g (m.does n 7).1 n (m.does n 7).2 := by
  go_enter Tryz.func74, Tryz.ntmps74
  go_wp2_with fail
  refine region_last (by kernel_rfl) (by kernel_rfl) 14 (by decide) (by kernel_rfl) (by kernel_rfl) (fun W => DSt base W g x y m n (-1) ∧ Onto g w W) (fun W => Done base w W g (m.does n 7).1 n (m.does n 7).2) [.pointer (some ⟨g, 0, none⟩), .pointer (some ⟨g, 0, none⟩), .pointer (some ⟨g, 0, none⟩), .pointer (some ⟨g, 0, none⟩), m.val x y, .pointer (some ⟨g, 0, none⟩), .pointer (some ⟨g, 0, none⟩), .pointer (some ⟨g, 0, none⟩), .pointer (some ⟨g, 3, none⟩), .int .i64 m.b, .int .i64 (m.readAt m.b), .pointer (some ⟨g, 0, none⟩), .pointer (some ⟨g, 0, none⟩), .pointer (some ⟨g, 2, none⟩), undef] ⟨h.drew, (Onto.refl g w).drew⟩ ?step ?last ?done
  case step =>
    intro L ix o' A W hne hi hI hg hd
    have hin : ix < 15 := by
      by_cases hl : ix < 15
      · exact hl
      · simp [hl] at hi
    rcases ix with _ | ix
    · obtain rfl := (Option.some.inj hi).symm
      have e0 : A.eval (.tmp 0) = .pointer (some ⟨g, 0, none⟩) := hI.old 0 (by kernel_rfl)
      exact at_op rfl rfl (move_op rfl ⟨_, rfl, e0, hg⟩)
    rcases ix with _ | ix
    · obtain rfl := (Option.some.inj hi).symm
      have e0 : A.eval (.tmp 0) = .pointer (some ⟨g, 0, none⟩) := hI.old 0 (by kernel_rfl)
      exact at_op rfl rfl (move_op rfl ⟨_, rfl, e0, hg⟩)
    rcases ix with _ | ix
    · obtain rfl := (Option.some.inj hi).symm
      have e0 : A.eval (.tmp 3) = .pointer (some ⟨g, 0, none⟩) := hI.val hd 1 3 rfl rfl (by kernel_rfl)
      exact at_op rfl rfl (nil_op rfl e0 ⟨_, rfl, rfl, hg⟩)
    rcases ix with _ | ix
    · obtain rfl := (Option.some.inj hi).symm
      have e0 : A.eval (.tmp 4) = .pointer (some ⟨g, 0, none⟩) := hI.val hd 2 4 rfl rfl (by kernel_rfl)
      refine at_op rfl rfl (val_op (v := .pointer (some ⟨g, 0, none⟩)) ?_ ⟨_, rfl, rfl, hg⟩)
      unfold execOp
      simp only [List.getElem_toArray, List.getElem_cons_zero, List.getElem_cons_succ, e0]
      simp [go_sem]
    rcases ix with _ | ix
    · obtain rfl := (Option.some.inj hi).symm
      have e0 : A.eval (.tmp 5) = .pointer (some ⟨g, 0, none⟩) := hI.val hd 3 5 rfl rfl (by kernel_rfl)
      exact at_op rfl rfl (lm_op rfl e0 hg.1.row ⟨_, rfl, rfl, hg⟩)
    rcases ix with _ | ix
    · obtain rfl := (Option.some.inj hi).symm
      have e0 : A.eval (.tmp 0) = .pointer (some ⟨g, 0, none⟩) := hI.old 0 (by kernel_rfl)
      exact at_op rfl rfl (move_op rfl ⟨_, rfl, e0, hg⟩)
    rcases ix with _ | ix
    · obtain rfl := (Option.some.inj hi).symm
      have e0 : A.eval (.tmp 7) = .pointer (some ⟨g, 0, none⟩) := hI.val hd 5 7 rfl rfl (by kernel_rfl)
      exact at_op rfl rfl (nil_op rfl e0 ⟨_, rfl, rfl, hg⟩)
    rcases ix with _ | ix
    · obtain rfl := (Option.some.inj hi).symm
      have e0 : A.eval (.tmp 8) = .pointer (some ⟨g, 0, none⟩) := hI.val hd 6 8 rfl rfl (by kernel_rfl)
      refine at_op rfl rfl (val_op (v := .pointer (some ⟨g, 0, none⟩)) ?_ ⟨_, rfl, rfl, hg⟩)
      unfold execOp
      simp only [List.getElem_toArray, List.getElem_cons_zero, List.getElem_cons_succ, e0]
      simp [go_sem]
    rcases ix with _ | ix
    · obtain rfl := (Option.some.inj hi).symm
      have e0 : A.eval (.tmp 9) = .pointer (some ⟨g, 0, none⟩) := hI.val hd 7 9 rfl rfl (by kernel_rfl)
      refine at_op rfl rfl (val_op (v := .pointer (some ⟨g, 3, none⟩)) ?_ ⟨_, rfl, rfl, hg⟩)
      unfold execOp
      simp only [List.getElem_toArray, List.getElem_cons_zero, List.getElem_cons_succ, e0]
      simp [go_sem]
    rcases ix with _ | ix
    · obtain rfl := (Option.some.inj hi).symm
      have e0 : A.eval (.tmp 10) = .pointer (some ⟨g, 3, none⟩) := hI.val hd 8 10 rfl rfl (by kernel_rfl)
      exact at_op rfl rfl (load_op rfl Tryz.underlying2 e0 (dw hg.1.row).b ⟨_, rfl, rfl, hg⟩)
    rcases ix with _ | ix
    · obtain rfl := (Option.some.inj hi).symm
      have e0 : A.eval (.tmp 6) = m.val x y := hI.val hd 4 6 rfl rfl (by kernel_rfl)
      have e1 : A.eval (.tmp 11) = .int .i64 m.b := hI.val hd 9 11 rfl rfl (by kernel_rfl)
      refine at_op rfl rfl (call_op rfl Tryz.func26 (by kernel_rfl) (by kernel_rfl) ?_)
      simp only [List.map_cons, List.map_nil, e0, e1]
      refine (readAt_impl _ m _ _ hg.1.sl).mono ?_
      rintro e w1 ⟨rfl, hb⟩
      exact ⟨_, rfl, _, rfl, rfl, hg.1.below hb, hg.2.trans (below_on hb)⟩
    rcases ix with _ | ix
    · obtain rfl := (Option.some.inj hi).symm
      have e0 : A.eval (.tmp 2) = .pointer (some ⟨g, 0, none⟩) := hI.val hd 0 2 rfl rfl (by kernel_rfl)
      exact at_op rfl rfl (nil_op rfl e0 ⟨_, rfl, rfl, hg⟩)
    rcases ix with _ | ix
    · obtain rfl := (Option.some.inj hi).symm
      have e0 : A.eval (.tmp 13) = .pointer (some ⟨g, 0, none⟩) := hI.val hd 11 13 rfl rfl (by kernel_rfl)
      refine at_op rfl rfl (val_op (v := .pointer (some ⟨g, 0, none⟩)) ?_ ⟨_, rfl, rfl, hg⟩)
      unfold execOp
      simp only [List.getElem_toArray, List.getElem_cons_zero, List.getElem_cons_succ, e0]
      simp [go_sem]
    rcases ix with _ | ix
    · obtain rfl := (Option.some.inj hi).symm
      have e0 : A.eval (.tmp 14) = .pointer (some ⟨g, 0, none⟩) := hI.val hd 12 14 rfl rfl (by kernel_rfl)
      refine at_op rfl rfl (val_op (v := .pointer (some ⟨g, 2, none⟩)) ?_ ⟨_, rfl, rfl, hg⟩)
      unfold execOp
      simp only [List.getElem_toArray, List.getElem_cons_zero, List.getElem_cons_succ, e0]
      simp [go_sem]
    rcases ix with _ | ix
    · exact absurd rfl hne
    omega
  case last =>
    intro L o' A W hi hI hg hd
    obtain rfl := (Option.some.inj hi).symm
    have e0 : A.eval (.tmp 15) = .pointer (some ⟨g, 2, none⟩) := hI.val hd 13 15 rfl rfl (by kernel_rfl)
    have e1 : A.eval (.tmp 12) = .int .i64 (m.readAt m.b) := hI.val hd 10 12 rfl rfl (by kernel_rfl)
    rw [readAt_ok hok (okm.1 hok).b] at e1
    exact at_op rfl rfl (sd_op (m' := (m.does n 7).1) (n' := n) (o' := -1) rfl e0 e1 hg.1.row rfl rfl (fun w' hr ho => ⟨_, rfl, rfl, .mk (hg.1.set hr ho rfl rfl) (hg.2.trans ho)⟩))
  case done =>
    intro A W hI hE
    exact ret_unit rfl hI.defers ⟨rfl, hE⟩
set_option maxRecDepth 100000 in
theorem pib_impl (h : DSt base w g x y m n (-1)) (hok : m.ok = true) (hn : bok n = true) :
    Calls Tryz.prog 75 #[.pointer (some ⟨g, 0, none⟩)] w fun e w' => e = .returned (.tuple #[]) ∧ Done base w w' g (m.does n 8).1 n (m.does n 8).2 := by
  go_enter Tryz.func75, Tryz.ntmps75
  go_wp2_with fail
  refine region_last (by kernel_rfl) (by kernel_rfl) 11 (by decide) (by kernel_rfl) (by kernel_rfl) (fun W => DSt base W g x y m n (-1) ∧ Onto g w W) (fun W => Done base w W g (m.does n 8).1 n (m.does n 8).2) [.pointer (some ⟨g, 0, none⟩), .pointer (some ⟨g, 0, none⟩), .pointer (some ⟨g, 0, none⟩), .pointer (some ⟨g, 0, none⟩), .pointer (some ⟨g, 3, none⟩), .int .i64 m.b, .pointer (some ⟨g, 0, none⟩), .pointer (some ⟨g, 0, none⟩), .pointer (some ⟨g, 0, none⟩), .pointer (some ⟨g, 2, none⟩), .int .i64 m.a, .tuple #[]] ⟨h.drew, (Onto.refl g w).drew⟩ ?step ?last ?done
  case step =>
    intro L ix o' A W hne hi hI hg hd
    have hin : ix < 12 := by
      by_cases hl : ix < 12
      · exact hl
      · simp [hl] at hi
    rcases ix with _ | ix
    · obtain rfl := (Option.some.inj hi).symm
      have e0 : A.eval (.tmp 0) = .pointer (some ⟨g, 0, none⟩) := hI.old 0 (by kernel_rfl)
      exact at_op rfl rfl (move_op rfl ⟨_, rfl, e0, hg⟩)
    rcases ix with _ | ix
    · obtain rfl := (Option.some.inj hi).symm
      have e0 : A.eval (.tmp 0) = .pointer (some ⟨g, 0, none⟩) := hI.old 0 (by kernel_rfl)
      exact at_op rfl rfl (move_op rfl ⟨_, rfl, e0, hg⟩)
    rcases ix with _ | ix
    · obtain rfl := (Option.some.inj hi).symm
      have e0 : A.eval (.tmp 3) = .pointer (some ⟨g, 0, none⟩) := hI.val hd 1 3 rfl rfl (by kernel_rfl)
      exact at_op rfl rfl (nil_op rfl e0 ⟨_, rfl, rfl, hg⟩)
    rcases ix with _ | ix
    · obtain rfl := (Option.some.inj hi).symm
      have e0 : A.eval (.tmp 4) = .pointer (some ⟨g, 0, none⟩) := hI.val hd 2 4 rfl rfl (by kernel_rfl)
      refine at_op rfl rfl (val_op (v := .pointer (some ⟨g, 0, none⟩)) ?_ ⟨_, rfl, rfl, hg⟩)
      unfold execOp
      simp only [List.getElem_toArray, List.getElem_cons_zero, List.getElem_cons_succ, e0]
      simp [go_sem]
    rcases ix with _ | ix
    · obtain rfl := (Option.some.inj hi).symm
      have e0 : A.eval (.tmp 5) = .pointer (some ⟨g, 0, none⟩) := hI.val hd 3 5 rfl rfl (by kernel_rfl)
      refine at_op rfl rfl (val_op (v := .pointer (some ⟨g, 3, none⟩)) ?_ ⟨_, rfl, rfl, hg⟩)
      unfold execOp
      simp only [List.getElem_toArray, List.getElem_cons_zero, List.getElem_cons_succ, e0]
      simp [go_sem]
    rcases ix with _ | ix
    · obtain rfl := (Option.some.inj hi).symm
      have e0 : A.eval (.tmp 6) = .pointer (some ⟨g, 3, none⟩) := hI.val hd 4 6 rfl rfl (by kernel_rfl)
      exact at_op rfl rfl (load_op rfl Tryz.underlying2 e0 (dw hg.1.row).b ⟨_, rfl, rfl, hg⟩)
    rcases ix with _ | ix
    · obtain rfl := (Option.some.inj hi).symm
      have e0 : A.eval (.tmp 0) = .pointer (some ⟨g, 0, none⟩) := hI.old 0 (by kernel_rfl)
      exact at_op rfl rfl (move_op rfl ⟨_, rfl, e0, hg⟩)
    rcases ix with _ | ix
    · obtain rfl := (Option.some.inj hi).symm
      have e0 : A.eval (.tmp 8) = .pointer (some ⟨g, 0, none⟩) := hI.val hd 6 8 rfl rfl (by kernel_rfl)
      exact at_op rfl rfl (nil_op rfl e0 ⟨_, rfl, rfl, hg⟩)
    rcases ix with _ | ix
    · obtain rfl := (Option.some.inj hi).symm
      have e0 : A.eval (.tmp 9) = .pointer (some ⟨g, 0, none⟩) := hI.val hd 7 9 rfl rfl (by kernel_rfl)
      refine at_op rfl rfl (val_op (v := .pointer (some ⟨g, 0, none⟩)) ?_ ⟨_, rfl, rfl, hg⟩)
      unfold execOp
      simp only [List.getElem_toArray, List.getElem_cons_zero, List.getElem_cons_succ, e0]
      simp [go_sem]
    rcases ix with _ | ix
    · obtain rfl := (Option.some.inj hi).symm
      have e0 : A.eval (.tmp 10) = .pointer (some ⟨g, 0, none⟩) := hI.val hd 8 10 rfl rfl (by kernel_rfl)
      refine at_op rfl rfl (val_op (v := .pointer (some ⟨g, 2, none⟩)) ?_ ⟨_, rfl, rfl, hg⟩)
      unfold execOp
      simp only [List.getElem_toArray, List.getElem_cons_zero, List.getElem_cons_succ, e0]
      simp [go_sem]
    rcases ix with _ | ix
    · obtain rfl := (Option.some.inj hi).symm
      have e0 : A.eval (.tmp 11) = .pointer (some ⟨g, 2, none⟩) := hI.val hd 9 11 rfl rfl (by kernel_rfl)
      exact at_op rfl rfl (load_op rfl Tryz.underlying2 e0 (dw hg.1.row).a ⟨_, rfl, rfl, hg⟩)
    rcases ix with _ | ix
    · exact absurd rfl hne
    omega
  case last =>
    intro L o' A W hi hI hg hd
    obtain rfl := (Option.some.inj hi).symm
    have e0 : A.eval (.tmp 2) = .pointer (some ⟨g, 0, none⟩) := hI.val hd 0 2 rfl rfl (by kernel_rfl)
    have e1 : A.eval (.tmp 7) = .int .i64 m.b := hI.val hd 5 7 rfl rfl (by kernel_rfl)
    have e2 : A.eval (.tmp 12) = .int .i64 m.a := hI.val hd 10 12 rfl rfl (by kernel_rfl)
    refine at_op rfl rfl (call_op rfl Tryz.func73 (by kernel_rfl) (by kernel_rfl) ?_)
    simp only [List.map_cons, List.map_nil, e0, e1, e2]
    refine (write_impl hg.1 _ _).mono ?_
    rintro e w1 ⟨rfl, x1, y1, h1, o1⟩
    rw [writtenAt_ok hok (okm.1 hok).b (okm.1 hok).a] at h1
    exact ⟨_, rfl, _, rfl, rfl, .mk h1 (hg.2.trans o1)⟩
  case done =>
    intro A W hI hE
    exact ret_unit rfl hI.defers ⟨rfl, hE⟩
set_option maxRecDepth 100000 in
theorem add_impl (h : DSt base w g x y m n (-1)) (hok : m.ok = true) (hn : bok n = true) :
    Calls Tryz.prog 76 #[.pointer (some ⟨g, 0, none⟩)] w fun e w' => e = .returned (.tuple #[]) ∧ Done base w w' g (m.does n 9).1 n (m.does n 9).2 := by
  go_enter Tryz.func76, Tryz.ntmps76
  go_wp2_with fail
  refine region_last (by kernel_rfl) (by kernel_rfl) 13 (by decide) (by kernel_rfl) (by kernel_rfl) (fun W => DSt base W g x y m n (-1) ∧ Onto g w W) (fun W => Done base w W g (m.does n 9).1 n (m.does n 9).2) [.pointer (some ⟨g, 0, none⟩), .pointer (some ⟨g, 0, none⟩), .pointer (some ⟨g, 0, none⟩), .pointer (some ⟨g, 0, none⟩), .pointer (some ⟨g, 2, none⟩), .int .i64 m.a, .pointer (some ⟨g, 0, none⟩), .pointer (some ⟨g, 0, none⟩), .pointer (some ⟨g, 25, none⟩), .int .i64 n, .tuple #[.int .i64 (addB m.a n), .bool (addC m.a n)], .int .i64 (addB m.a n), .bool (addC m.a n), .tuple #[]] ⟨h.drew, (Onto.refl g w).drew⟩ ?step ?last ?done
  case step =>
    intro L ix o' A W hne hi hI hg hd
    have hin : ix < 14 := by
      by_cases hl : ix < 14
      · exact hl
      · simp [hl] at hi
    rcases ix with _ | ix
    · obtain rfl := (Option.some.inj hi).symm
      have e0 : A.eval (.tmp 0) = .pointer (some ⟨g, 0, none⟩) := hI.old 0 (by kernel_rfl)
      exact at_op rfl rfl (move_op rfl ⟨_, rfl, e0, hg⟩)
    rcases ix with _ | ix
    · obtain rfl := (Option.some.inj hi).symm
      have e0 : A.eval (.tmp 0) = .pointer (some ⟨g, 0, none⟩) := hI.old 0 (by kernel_rfl)
      exact at_op rfl rfl (move_op rfl ⟨_, rfl, e0, hg⟩)
    rcases ix with _ | ix
    · obtain rfl := (Option.some.inj hi).symm
      have e0 : A.eval (.tmp 3) = .pointer (some ⟨g, 0, none⟩) := hI.val hd 1 3 rfl rfl (by kernel_rfl)
      exact at_op rfl rfl (nil_op rfl e0 ⟨_, rfl, rfl, hg⟩)
    rcases ix with _ | ix
    · obtain rfl := (Option.some.inj hi).symm
      have e0 : A.eval (.tmp 4) = .pointer (some ⟨g, 0, none⟩) := hI.val hd 2 4 rfl rfl (by kernel_rfl)
      refine at_op rfl rfl (val_op (v := .pointer (some ⟨g, 0, none⟩)) ?_ ⟨_, rfl, rfl, hg⟩)
      unfold execOp
      simp only [List.getElem_toArray, List.getElem_cons_zero, List.getElem_cons_succ, e0]
      simp [go_sem]
    rcases ix with _ | ix
    · obtain rfl := (Option.some.inj hi).symm
      have e0 : A.eval (.tmp 5) = .pointer (some ⟨g, 0, none⟩) := hI.val hd 3 5 rfl rfl (by kernel_rfl)
      refine at_op rfl rfl (val_op (v := .pointer (some ⟨g, 2, none⟩)) ?_ ⟨_, rfl, rfl, hg⟩)
      unfold execOp
      simp only [List.getElem_toArray, List.getElem_cons_zero, List.getElem_cons_succ, e0]
      simp [go_sem]
    rcases ix with _ | ix
    · obtain rfl := (Option.some.inj hi).symm
      have e0 : A.eval (.tmp 6) = .pointer (some ⟨g, 2, none⟩) := hI.val hd 4 6 rfl rfl (by kernel_rfl)
      exact at_op rfl rfl (load_op rfl Tryz.underlying2 e0 (dw hg.1.row).a ⟨_, rfl, rfl, hg⟩)
    rcases ix with _ | ix
    · obtain rfl := (Option.some.inj hi).symm
      have e0 : A.eval (.tmp 0) = .pointer (some ⟨g, 0, none⟩) := hI.old 0 (by kernel_rfl)
      exact at_op rfl rfl (move_op rfl ⟨_, rfl, e0, hg⟩)
    rcases ix with _ | ix
    · obtain rfl := (Option.some.inj hi).symm
      have e0 : A.eval (.tmp 8) = .pointer (some ⟨g, 0, none⟩) := hI.val hd 6 8 rfl rfl (by kernel_rfl)
      exact at_op rfl rfl (nil_op rfl e0 ⟨_, rfl, rfl, hg⟩)
    rcases ix with _ | ix
    · obtain rfl := (Option.some.inj hi).symm
      have e0 : A.eval (.tmp 9) = .pointer (some ⟨g, 0, none⟩) := hI.val hd 7 9 rfl rfl (by kernel_rfl)
      refine at_op rfl rfl (val_op (v := .pointer (some ⟨g, 25, none⟩)) ?_ ⟨_, rfl, rfl, hg⟩)
      unfold execOp
      simp only [List.getElem_toArray, List.getElem_cons_zero, List.getElem_cons_succ, e0]
      simp [go_sem]
    rcases ix with _ | ix
    · obtain rfl := (Option.some.inj hi).symm
      have e0 : A.eval (.tmp 10) = .pointer (some ⟨g, 25, none⟩) := hI.val hd 8 10 rfl rfl (by kernel_rfl)
      exact at_op rfl rfl (load_op rfl Tryz.underlying2 e0 (dw hg.1.row).n ⟨_, rfl, rfl, hg⟩)
    rcases ix with _ | ix
    · obtain rfl := (Option.some.inj hi).symm
      have e0 : A.eval (.tmp 7) = .int .i64 m.a := hI.val hd 5 7 rfl rfl (by kernel_rfl)
      have e1 : A.eval (.tmp 11) = .int .i64 n := hI.val hd 9 11 rfl rfl (by kernel_rfl)
      refine at_op rfl rfl (call_op rfl Tryz.func65 (by kernel_rfl) (by kernel_rfl) ?_)
      simp only [List.map_cons, List.map_nil, e0, e1]
      refine (addByte_impl _ _ _).mono ?_
      rintro e w1 ⟨rfl, rfl⟩
      exact ⟨_, rfl, _, rfl, rfl, hg⟩
    rcases ix with _ | ix
    · obtain rfl := (Option.some.inj hi).symm
      have e0 : A.eval (.tmp 12) = .tuple #[.int .i64 (addB m.a n), .bool (addC m.a n)] := hI.val hd 10 12 rfl rfl (by kernel_rfl)
      refine at_op rfl rfl (val_op (v := .int .i64 (addB m.a n)) ?_ ⟨_, rfl, rfl, hg⟩)
      unfold execOp
      simp only [List.getElem_toArray, List.getElem_cons_zero, List.getElem_cons_succ, e0]
      simp [go_sem]
    rcases ix with _ | ix
    · obtain rfl := (Option.some.inj hi).symm
      have e0 : A.eval (.tmp 12) = .tuple #[.int .i64 (addB m.a n), .bool (addC m.a n)] := hI.val hd 10 12 rfl rfl (by kernel_rfl)
      refine at_op rfl rfl (val_op (v := .bool (addC m.a n)) ?_ ⟨_, rfl, rfl, hg⟩)
      unfold execOp
      simp only [List.getElem_toArray, List.getElem_cons_zero, List.getElem_cons_succ, e0]
      simp [go_sem]
    rcases ix with _ | ix
    · exact absurd rfl hne
    omega
  case last =>
    intro L o' A W hi hI hg hd
    obtain rfl := (Option.some.inj hi).symm
    have e0 : A.eval (.tmp 2) = .pointer (some ⟨g, 0, none⟩) := hI.val hd 0 2 rfl rfl (by kernel_rfl)
    have e1 : A.eval (.tmp 13) = .int .i64 (addB m.a n) := hI.val hd 11 13 rfl rfl (by kernel_rfl)
    have e2 : A.eval (.tmp 14) = .bool (addC m.a n) := hI.val hd 12 14 rfl rfl (by kernel_rfl)
    refine at_op rfl rfl (call_op rfl Tryz.func77 (by kernel_rfl) (by kernel_rfl) ?_)
    simp only [List.map_cons, List.map_nil, e0, e1, e2]
    refine (makeA_impl hg.1 _ _).mono ?_
    rintro e w1 ⟨rfl, x1, y1, h1, o1⟩
    exact ⟨_, rfl, _, rfl, rfl, .mk h1 (hg.2.trans o1)⟩
  case done =>
    intro A W hI hE
    exact ret_unit rfl hI.defers ⟨rfl, hE⟩
set_option maxRecDepth 100000 in
theorem adb_impl (h : DSt base w g x y m n (-1)) (hok : m.ok = true) (hn : bok n = true) :
    Calls Tryz.prog 78 #[.pointer (some ⟨g, 0, none⟩)] w fun e w' => e = .returned (.tuple #[]) ∧ Done base w w' g (m.does n 10).1 n (m.does n 10).2 := by
  go_enter Tryz.func78, Tryz.ntmps78
  go_wp2_with fail
  refine region_last (by kernel_rfl) (by kernel_rfl) 14 (by decide) (by kernel_rfl) (by kernel_rfl) (fun W => DSt base W g x y m n (-1) ∧ Onto g w W) (fun W => Done base w W g (m.does n 10).1 n (m.does n 10).2) [.pointer (some ⟨g, 0, none⟩), .pointer (some ⟨g, 0, none⟩), .pointer (some ⟨g, 0, none⟩), .pointer (some ⟨g, 0, none⟩), .pointer (some ⟨g, 2, none⟩), .int .i64 m.a, .pointer (some ⟨g, 0, none⟩), .pointer (some ⟨g, 0, none⟩), .pointer (some ⟨g, 0, none⟩), .pointer (some ⟨g, 3, none⟩), .int .i64 m.b, .tuple #[.int .i64 (addB m.a m.b), .bool (addC m.a m.b)], .int .i64 (addB m.a m.b), .bool (addC m.a m.b), .tuple #[]] ⟨h.drew, (Onto.refl g w).drew⟩ ?step ?last ?done
  case step =>
    intro L ix o' A W hne hi hI hg hd
    have hin : ix < 15 := by
      by_cases hl : ix < 15
      · exact hl
      · simp [hl] at hi
    rcases ix with _ | ix
    · obtain rfl := (Option.some.inj hi).symm
      have e0 : A.eval (.tmp 0) = .pointer (some ⟨g, 0, none⟩) := hI.old 0 (by kernel_rfl)
      exact at_op rfl rfl (move_op rfl ⟨_, rfl, e0, hg⟩)
    rcases ix with _ | ix
    · obtain rfl := (Option.some.inj hi).symm
      have e0 : A.eval (.tmp 0) = .pointer (some ⟨g, 0, none⟩) := hI.old 0 (by kernel_rfl)
      exact at_op rfl rfl (move_op rfl ⟨_, rfl, e0, hg⟩)
    rcases ix with _ | ix
    · obtain rfl := (Option.some.inj hi).symm
      have e0 : A.eval (.tmp 3) = .pointer (some ⟨g, 0, none⟩) := hI.val hd 1 3 rfl rfl (by kernel_rfl)
      exact at_op rfl rfl (nil_op rfl e0 ⟨_, rfl, rfl, hg⟩)
    rcases ix with _ | ix
    · obtain rfl := (Option.some.inj hi).symm
      have e0 : A.eval (.tmp 4) = .pointer (some ⟨g, 0, none⟩) := hI.val hd 2 4 rfl rfl (by kernel_rfl)
      refine at_op rfl rfl (val_op (v := .pointer (some ⟨g, 0, none⟩)) ?_ ⟨_, rfl, rfl, hg⟩)
      unfold execOp
      simp only [List.getElem_toArray, List.getElem_cons_zero, List.getElem_cons_succ, e0]
      simp [go_sem]
    rcases ix with _ | ix
    · obtain rfl := (Option.some.inj hi).symm
      have e0 : A.eval (.tmp 5) = .pointer (some ⟨g, 0, none⟩) := hI.val hd 3 5 rfl rfl (by kernel_rfl)
      refine at_op rfl rfl (val_op (v := .pointer (some ⟨g, 2, none⟩)) ?_ ⟨_, rfl, rfl, hg⟩)
      unfold execOp
      simp only [List.getElem_toArray, List.getElem_cons_zero, List.getElem_cons_succ, e0]
      simp [go_sem]
    rcases ix with _ | ix
    · obtain rfl := (Option.some.inj hi).symm
      have e0 : A.eval (.tmp 6) = .pointer (some ⟨g, 2, none⟩) := hI.val hd 4 6 rfl rfl (by kernel_rfl)
      exact at_op rfl rfl (load_op rfl Tryz.underlying2 e0 (dw hg.1.row).a ⟨_, rfl, rfl, hg⟩)
    rcases ix with _ | ix
    · obtain rfl := (Option.some.inj hi).symm
      have e0 : A.eval (.tmp 0) = .pointer (some ⟨g, 0, none⟩) := hI.old 0 (by kernel_rfl)
      exact at_op rfl rfl (move_op rfl ⟨_, rfl, e0, hg⟩)
    rcases ix with _ | ix
    · obtain rfl := (Option.some.inj hi).symm
      have e0 : A.eval (.tmp 8) = .pointer (some ⟨g, 0, none⟩) := hI.val hd 6 8 rfl rfl (by kernel_rfl)
      exact at_op rfl rfl (nil_op rfl e0 ⟨_, rfl, rfl, hg⟩)
    rcases ix with _ | ix
    · obtain rfl := (Option.some.inj hi).symm
      have e0 : A.eval (.tmp 9) = .pointer (some ⟨g, 0, none⟩) := hI.val hd 7 9 rfl rfl (by kernel_rfl)
      refine at_op rfl rfl (val_op (v := .pointer (some ⟨g, 0, none⟩)) ?_ ⟨_, rfl, rfl, hg⟩)
      unfold execOp
      simp only [List.getElem_toArray, List.getElem_cons_zero, List.getElem_cons_succ, e0]
      simp [go_sem]
    rcases ix with _ | ix
    · obtain rfl := (Option.some.inj hi).symm
      have e0 : A.eval (.tmp 10) = .pointer (some ⟨g, 0, none⟩) := hI.val hd 8 10 rfl rfl (by kernel_rfl)
      refine at_op rfl rfl (val_op (v := .pointer (some ⟨g, 3, none⟩)) ?_ ⟨_, rfl, rfl, hg⟩)
      unfold execOp
      simp only [List.getElem_toArray, List.getElem_cons_zero, List.getElem_cons_succ, e0]
      simp [go_sem]
    rcases ix with _ | ix
    · obtain rfl := (Option.some.inj hi).symm
      have e0 : A.eval (.tmp 11) = .pointer (some ⟨g, 3, none⟩) := hI.val hd 9 11 rfl rfl (by kernel_rfl)
      exact at_op rfl rfl (load_op rfl Tryz.underlying2 e0 (dw hg.1.row).b ⟨_, rfl, rfl, hg⟩)
    rcases ix with _ | ix
    · obtain rfl := (Option.some.inj hi).symm
      have e0 : A.eval (.tmp 7) = .int .i64 m.a := hI.val hd 5 7 rfl rfl (by kernel_rfl)
      have e1 : A.eval (.tmp 12) = .int .i64 m.b := hI.val hd 10 12 rfl rfl (by kernel_rfl)
      refine at_op rfl rfl (call_op rfl Tryz.func65 (by kernel_rfl) (by kernel_rfl) ?_)
      simp only [List.map_cons, List.map_nil, e0, e1]
      refine (addByte_impl _ _ _).mono ?_
      rintro e w1 ⟨rfl, rfl⟩
      exact ⟨_, rfl, _, rfl, rfl, hg⟩
    rcases ix with _ | ix
    · obtain rfl := (Option.some.inj hi).symm
      have e0 : A.eval (.tmp 13) = .tuple #[.int .i64 (addB m.a m.b), .bool (addC m.a m.b)] := hI.val hd 11 13 rfl rfl (by kernel_rfl)
      refine at_op rfl rfl (val_op (v := .int .i64 (addB m.a m.b)) ?_ ⟨_, rfl, rfl, hg⟩)
      unfold execOp
      simp only [List.getElem_toArray, List.getElem_cons_zero, List.getElem_cons_succ, e0]
      simp [go_sem]
    rcases ix with _ | ix
    · obtain rfl := (Option.some.inj hi).symm
      have e0 : A.eval (.tmp 13) = .tuple #[.int .i64 (addB m.a m.b), .bool (addC m.a m.b)] := hI.val hd 11 13 rfl rfl (by kernel_rfl)
      refine at_op rfl rfl (val_op (v := .bool (addC m.a m.b)) ?_ ⟨_, rfl, rfl, hg⟩)
      unfold execOp
      simp only [List.getElem_toArray, List.getElem_cons_zero, List.getElem_cons_succ, e0]
      simp [go_sem]
    rcases ix with _ | ix
    · exact absurd rfl hne
    omega
  case last =>
    intro L o' A W hi hI hg hd
    obtain rfl := (Option.some.inj hi).symm
    have e0 : A.eval (.tmp 2) = .pointer (some ⟨g, 0, none⟩) := hI.val hd 0 2 rfl rfl (by kernel_rfl)
    have e1 : A.eval (.tmp 14) = .int .i64 (addB m.a m.b) := hI.val hd 12 14 rfl rfl (by kernel_rfl)
    have e2 : A.eval (.tmp 15) = .bool (addC m.a m.b) := hI.val hd 13 15 rfl rfl (by kernel_rfl)
    refine at_op rfl rfl (call_op rfl Tryz.func77 (by kernel_rfl) (by kernel_rfl) ?_)
    simp only [List.map_cons, List.map_nil, e0, e1, e2]
    refine (makeA_impl hg.1 _ _).mono ?_
    rintro e w1 ⟨rfl, x1, y1, h1, o1⟩
    exact ⟨_, rfl, _, rfl, rfl, .mk h1 (hg.2.trans o1)⟩
  case done =>
    intro A W hI hE
    exact ret_unit rfl hI.defers ⟨rfl, hE⟩
set_option maxRecDepth 100000 in
theorem sub_impl (h : DSt base w g x y m n (-1)) (hok : m.ok = true) (hn : bok n = true) :
    Calls Tryz.prog 79 #[.pointer (some ⟨g, 0, none⟩)] w fun e w' => e = .returned (.tuple #[]) ∧ Done base w w' g (m.does n 11).1 n (m.does n 11).2 := by
  go_enter Tryz.func79, Tryz.ntmps79
  go_wp2_with fail
  refine region_last (by kernel_rfl) (by kernel_rfl) 13 (by decide) (by kernel_rfl) (by kernel_rfl) (fun W => DSt base W g x y m n (-1) ∧ Onto g w W) (fun W => Done base w W g (m.does n 11).1 n (m.does n 11).2) [.pointer (some ⟨g, 0, none⟩), .pointer (some ⟨g, 0, none⟩), .pointer (some ⟨g, 0, none⟩), .pointer (some ⟨g, 0, none⟩), .pointer (some ⟨g, 2, none⟩), .int .i64 m.a, .pointer (some ⟨g, 0, none⟩), .pointer (some ⟨g, 0, none⟩), .pointer (some ⟨g, 25, none⟩), .int .i64 n, .tuple #[.int .i64 (subB m.a n), .bool (subC m.a n)], .int .i64 (subB m.a n), .bool (subC m.a n), .tuple #[]] ⟨h.drew, (Onto.refl g w).drew⟩ ?step ?last ?done
  case step =>
    intro L ix o' A W hne hi hI hg hd
    have hin : ix < 14 := by
      by_cases hl : ix < 14
      · exact hl
      · simp [hl] at hi
    rcases ix with _ | ix
    · obtain rfl := (Option.some.inj hi).symm
      have e0 : A.eval (.tmp 0) = .pointer (some ⟨g, 0, none⟩) := hI.old 0 (by kernel_rfl)
      exact at_op rfl rfl (move_op rfl ⟨_, rfl, e0, hg⟩)
    rcases ix with _ | ix
    · obtain rfl := (Option.some.inj hi).symm
      have e0 : A.eval (.tmp 0) = .pointer (some ⟨g, 0, none⟩) := hI.old 0 (by kernel_rfl)
      exact at_op rfl rfl (move_op rfl ⟨_, rfl, e0, hg⟩)
    rcases ix with _ | ix
    · obtain rfl := (Option.some.inj hi).symm
      have e0 : A.eval (.tmp 3) = .pointer (some ⟨g, 0, none⟩) := hI.val hd 1 3 rfl rfl (by kernel_rfl)
      exact at_op rfl rfl (nil_op rfl e0 ⟨_, rfl, rfl, hg⟩)
    rcases ix with _ | ix
    · obtain rfl := (Option.some.inj hi).symm
      have e0 : A.eval (.tmp 4) = .pointer (some ⟨g, 0, none⟩) := hI.val hd 2 4 rfl rfl (by kernel_rfl)
      refine at_op rfl rfl (val_op (v := .pointer (some ⟨g, 0, none⟩)) ?_ ⟨_, rfl, rfl, hg⟩)
      unfold execOp
      simp only [List.getElem_toArray, List.getElem_cons_zero, List.getElem_cons_succ, e0]
      simp [go_sem]
    rcases ix with _ | ix
    · obtain rfl := (Option.some.inj hi).symm
      have e0 : A.eval (.tmp 5) = .pointer (some ⟨g, 0, none⟩) := hI.val hd 3 5 rfl rfl (by kernel_rfl)
      refine at_op rfl rfl (val_op (v := .pointer (some ⟨g, 2, none⟩)) ?_ ⟨_, rfl, rfl, hg⟩)
      unfold execOp
      simp only [List.getElem_toArray, List.getElem_cons_zero, List.getElem_cons_succ, e0]
      simp [go_sem]
    rcases ix with _ | ix
    · obtain rfl := (Option.some.inj hi).symm
      have e0 : A.eval (.tmp 6) = .pointer (some ⟨g, 2, none⟩) := hI.val hd 4 6 rfl rfl (by kernel_rfl)
      exact at_op rfl rfl (load_op rfl Tryz.underlying2 e0 (dw hg.1.row).a ⟨_, rfl, rfl, hg⟩)
    rcases ix with _ | ix
    · obtain rfl := (Option.some.inj hi).symm
      have e0 : A.eval (.tmp 0) = .pointer (some ⟨g, 0, none⟩) := hI.old 0 (by kernel_rfl)
      exact at_op rfl rfl (move_op rfl ⟨_, rfl, e0, hg⟩)
    rcases ix with _ | ix
    · obtain rfl := (Option.some.inj hi).symm
      have e0 : A.eval (.tmp 8) = .pointer (some ⟨g, 0, none⟩) := hI.val hd 6 8 rfl rfl (by kernel_rfl)
      exact at_op rfl rfl (nil_op rfl e0 ⟨_, rfl, rfl, hg⟩)
    rcases ix with _ | ix
    · obtain rfl := (Option.some.inj hi).symm
      have e0 : A.eval (.tmp 9) = .pointer (some ⟨g, 0, none⟩) := hI.val hd 7 9 rfl rfl (by kernel_rfl)
      refine at_op rfl rfl (val_op (v := .pointer (some ⟨g, 25, none⟩)) ?_ ⟨_, rfl, rfl, hg⟩)
      unfold execOp
      simp only [List.getElem_toArray, List.getElem_cons_zero, List.getElem_cons_succ, e0]
      simp [go_sem]
    rcases ix with _ | ix
    · obtain rfl := (Option.some.inj hi).symm
      have e0 : A.eval (.tmp 10) = .pointer (some ⟨g, 25, none⟩) := hI.val hd 8 10 rfl rfl (by kernel_rfl)
      exact at_op rfl rfl (load_op rfl Tryz.underlying2 e0 (dw hg.1.row).n ⟨_, rfl, rfl, hg⟩)
    rcases ix with _ | ix
    · obtain rfl := (Option.some.inj hi).symm
      have e0 : A.eval (.tmp 7) = .int .i64 m.a := hI.val hd 5 7 rfl rfl (by kernel_rfl)
      have e1 : A.eval (.tmp 11) = .int .i64 n := hI.val hd 9 11 rfl rfl (by kernel_rfl)
      refine at_op rfl rfl (call_op rfl Tryz.func80 (by kernel_rfl) (by kernel_rfl) ?_)
      simp only [List.map_cons, List.map_nil, e0, e1]
      refine (subByte_impl _ _ _).mono ?_
      rintro e w1 ⟨rfl, rfl⟩
      exact ⟨_, rfl, _, rfl, rfl, hg⟩
    rcases ix with _ | ix
    · obtain rfl := (Option.some.inj hi).symm
      have e0 : A.eval (.tmp 12) = .tuple #[.int .i64 (subB m.a n), .bool (subC m.a n)] := hI.val hd 10 12 rfl rfl (by kernel_rfl)
      refine at_op rfl rfl (val_op (v := .int .i64 (subB m.a n)) ?_ ⟨_, rfl, rfl, hg⟩)
      unfold execOp
      simp only [List.getElem_toArray, List.getElem_cons_zero, List.getElem_cons_succ, e0]
      simp [go_sem]
    rcases ix with _ | ix
    · obtain rfl := (Option.some.inj hi).symm
      have e0 : A.eval (.tmp 12) = .tuple #[.int .i64 (subB m.a n), .bool (subC m.a n)] := hI.val hd 10 12 rfl rfl (by kernel_rfl)
      refine at_op rfl rfl (val_op (v := .bool (subC m.a n)) ?_ ⟨_, rfl, rfl, hg⟩)
      unfold execOp
      simp only [List.getElem_toArray, List.getElem_cons_zero, List.getElem_cons_succ, e0]
      simp [go_sem]
    rcases ix with _ | ix
    · exact absurd rfl hne
    omega
  case last =>
    intro L o' A W hi hI hg hd
    obtain rfl := (Option.some.inj hi).symm
    have e0 : A.eval (.tmp 2) = .pointer (some ⟨g, 0, none⟩) := hI.val hd 0 2 rfl rfl (by kernel_rfl)
    have e1 : A.eval (.tmp 13) = .int .i64 (subB m.a n) := hI.val hd 11 13 rfl rfl (by kernel_rfl)
    have e2 : A.eval (.tmp 14) = .bool (subC m.a n) := hI.val hd 12 14 rfl rfl (by kernel_rfl)
    refine at_op rfl rfl (call_op rfl Tryz.func77 (by kernel_rfl) (by kernel_rfl) ?_)
    simp only [List.map_cons, List.map_nil, e0, e1, e2]
    refine (makeA_impl hg.1 _ _).mono ?_
    rintro e w1 ⟨rfl, x1, y1, h1, o1⟩
    exact ⟨_, rfl, _, rfl, rfl, .mk h1 (hg.2.trans o1)⟩
  case done =>
    intro A W hI hE
    exact ret_unit rfl hI.defers ⟨rfl, hE⟩
set_option maxRecDepth 100000 in
theorem cmp_impl (h : DSt base w g x y m n (-1)) (hok : m.ok = true) (hn : bok n = true) :
    Calls Tryz.prog 81 #[.pointer (some ⟨g, 0, none⟩)] w fun e w' => e = .returned (.tuple #[]) ∧ Done base w w' g (m.does n 12).1 n (m.does n 12).2 := by
  go_enter Tryz.func81, Tryz.ntmps81
  go_wp2_with fail
  refine region_last (by kernel_rfl) (by kernel_rfl) 13 (by decide) (by kernel_rfl) (by kernel_rfl) (fun W => DSt base W g x y m n (-1) ∧ Onto g w W) (fun W => Done base w W g (m.does n 12).1 n (m.does n 12).2) [.pointer (some ⟨g, 0, none⟩), .pointer (some ⟨g, 0, none⟩), .pointer (some ⟨g, 0, none⟩), .pointer (some ⟨g, 0, none⟩), .pointer (some ⟨g, 2, none⟩), .int .i64 m.a, .pointer (some ⟨g, 0, none⟩), .pointer (some ⟨g, 0, none⟩), .pointer (some ⟨g, 25, none⟩), .int .i64 n, .tuple #[.int .i64 (subB m.a n), .bool (subC m.a n)], .int .i64 (subB m.a n), .bool (subC m.a n), .tuple #[]] ⟨h.drew, (Onto.refl g w).drew⟩ ?step ?last ?done
  case step =>
    intro L ix o' A W hne hi hI hg hd
    have hin : ix < 14 := by
      by_cases hl : ix < 14
      · exact hl
      · simp [hl] at hi
    rcases ix with _ | ix
    · obtain rfl := (Option.some.inj hi).symm
      have e0 : A.eval (.tmp 0) = .pointer (some ⟨g, 0, none⟩) := hI.old 0 (by kernel_rfl)
      exact at_op rfl rfl (move_op rfl ⟨_, rfl, e0, hg⟩)
    rcases ix with _ | ix
    · obtain rfl := (Option.some.inj hi).symm
      have e0 : A.eval (.tmp 0) = .pointer (some ⟨g, 0, none⟩) := hI.old 0 (by kernel_rfl)
      exact at_op rfl rfl (move_op rfl ⟨_, rfl, e0, hg⟩)
    rcases ix with _ | ix
    · obtain rfl := (Option.some.inj hi).symm
      have e0 : A.eval (.tmp 3) = .pointer (some ⟨g, 0, none⟩) := hI.val hd 1 3 rfl rfl (by kernel_rfl)
      exact at_op rfl rfl (nil_op rfl e0 ⟨_, rfl, rfl, hg⟩)
    rcases ix with _ | ix
    · obtain rfl := (Option.some.inj hi).symm
      have e0 : A.eval (.tmp 4) = .pointer (some ⟨g, 0, none⟩) := hI.val hd 2 4 rfl rfl (by kernel_rfl)
      refine at_op rfl rfl (val_op (v := .pointer (some ⟨g, 0, none⟩)) ?_ ⟨_, rfl, rfl, hg⟩)
      unfold execOp
      simp only [List.getElem_toArray, List.getElem_cons_zero, List.getElem_cons_succ, e0]
      simp [go_sem]
    rcases ix with _ | ix
    · obtain rfl := (Option.some.inj hi).symm
      have e0 : A.eval (.tmp 5) = .pointer (some ⟨g, 0, none⟩) := hI.val hd 3 5 rfl rfl (by kernel_rfl)
      refine at_op rfl rfl (val_op (v := .pointer (some ⟨g, 2, none⟩)) ?_ ⟨_, rfl, rfl, hg⟩)
      unfold execOp
      simp only [List.getElem_toArray, List.getElem_cons_zero, List.getElem_cons_succ, e0]
      simp [go_sem]
    rcases ix with _ | ix
    · obtain rfl := (Option.some.inj hi).symm
      have e0 : A.eval (.tmp 6) = .pointer (some ⟨g, 2, none⟩) := hI.val hd 4 6 rfl rfl (by kernel_rfl)
      exact at_op rfl rfl (load_op rfl Tryz.underlying2 e0 (dw hg.1.row).a ⟨_, rfl, rfl, hg⟩)
    rcases ix with _ | ix
    · obtain rfl := (Option.some.inj hi).symm
      have e0 : A.eval (.tmp 0) = .pointer (some ⟨g, 0, none⟩) := hI.old 0 (by kernel_rfl)
      exact at_op rfl rfl (move_op rfl ⟨_, rfl, e0, hg⟩)
    rcases ix with _ | ix
    · obtain rfl := (Option.some.inj hi).symm
      have e0 : A.eval (.tmp 8) = .pointer (some ⟨g, 0, none⟩) := hI.val hd 6 8 rfl rfl (by kernel_rfl)
      exact at_op rfl rfl (nil_op rfl e0 ⟨_, rfl, rfl, hg⟩)
    rcases ix with _ | ix
    · obtain rfl := (Option.some.inj hi).symm
      have e0 : A.eval (.tmp 9) = .pointer (some ⟨g, 0, none⟩) := hI.val hd 7 9 rfl rfl (by kernel_rfl)
      refine at_op rfl rfl (val_op (v := .pointer (some ⟨g, 25, none⟩)) ?_ ⟨_, rfl, rfl, hg⟩)
      unfold execOp
      simp only [List.getElem_toArray, List.getElem_cons_zero, List.getElem_cons_succ, e0]
      simp [go_sem]
    rcases ix with _ | ix
    · obtain rfl := (Option.some.inj hi).symm
      have e0 : A.eval (.tmp 10) = .pointer (some ⟨g, 25, none⟩) := hI.val hd 8 10 rfl rfl (by kernel_rfl)
      exact at_op rfl rfl (load_op rfl Tryz.underlying2 e0 (dw hg.1.row).n ⟨_, rfl, rfl, hg⟩)
    rcases ix with _ | ix
    · obtain rfl := (Option.some.inj hi).symm
      have e0 : A.eval (.tmp 7) = .int .i64 m.a := hI.val hd 5 7 rfl rfl (by kernel_rfl)
      have e1 : A.eval (.tmp 11) = .int .i64 n := hI.val hd 9 11 rfl rfl (by kernel_rfl)
      refine at_op rfl rfl (call_op rfl Tryz.func80 (by kernel_rfl) (by kernel_rfl) ?_)
      simp only [List.map_cons, List.map_nil, e0, e1]
      refine (subByte_impl _ _ _).mono ?_
      rintro e w1 ⟨rfl, rfl⟩
      exact ⟨_, rfl, _, rfl, rfl, hg⟩
    rcases ix with _ | ix
    · obtain rfl := (Option.some.inj hi).symm
      have e0 : A.eval (.tmp 12) = .tuple #[.int .i64 (subB m.a n), .bool (subC m.a n)] := hI.val hd 10 12 rfl rfl (by kernel_rfl)
      refine at_op rfl rfl (val_op (v := .int .i64 (subB m.a n)) ?_ ⟨_, rfl, rfl, hg⟩)
      unfold execOp
      simp only [List.getElem_toArray, List.getElem_cons_zero, List.getElem_cons_succ, e0]
      simp [go_sem]
    rcases ix with _ | ix
    · obtain rfl := (Option.some.inj hi).symm
      have e0 : A.eval (.tmp 12) = .tuple #[.int .i64 (subB m.a n), .bool (subC m.a n)] := hI.val hd 10 12 rfl rfl (by kernel_rfl)
      refine at_op rfl rfl (val_op (v := .bool (subC m.a n)) ?_ ⟨_, rfl, rfl, hg⟩)
      unfold execOp
      simp only [List.getElem_toArray, List.getElem_cons_zero, List.getElem_cons_succ, e0]
      simp [go_sem]
    rcases ix with _ | ix
    · exact absurd rfl hne
    omega
  case last =>
    intro L o' A W hi hI hg hd
    obtain rfl := (Option.some.inj hi).symm
    have e0 : A.eval (.tmp 2) = .pointer (some ⟨g, 0, none⟩) := hI.val hd 0 2 rfl rfl (by kernel_rfl)
    have e1 : A.eval (.tmp 13) = .int .i64 (subB m.a n) := hI.val hd 11 13 rfl rfl (by kernel_rfl)
    have e2 : A.eval (.tmp 14) = .bool (subC m.a n) := hI.val hd 12 14 rfl rfl (by kernel_rfl)
    refine at_op rfl rfl (call_op rfl Tryz.func82 (by kernel_rfl) (by kernel_rfl) ?_)
    simp only [List.map_cons, List.map_nil, e0, e1, e2]
    refine (mark_impl hg.1 _ _).mono ?_
    rintro e w1 ⟨rfl, x1, y1, h1, o1⟩
    exact ⟨_, rfl, _, rfl, rfl, .mk h1 (hg.2.trans o1)⟩
  case done =>
    intro A W hI hE
    exact ret_unit rfl hI.defers ⟨rfl, hE⟩
set_option maxRecDepth 100000 in
theorem and_impl (h : DSt base w g x y m n (-1)) (hok : m.ok = true) (hn : bok n = true) :
    Calls Tryz.prog 83 #[.pointer (some ⟨g, 0, none⟩)] w fun e w' => e = .returned (.tuple #[]) ∧ Done base w w' g (m.does n 13).1 n (m.does n 13).2 := by
  go_enter Tryz.func83, Tryz.ntmps83
  go_wp2_with fail
  refine region_last (by kernel_rfl) (by kernel_rfl) 11 (by decide) (by kernel_rfl) (by kernel_rfl) (fun W => DSt base W g x y m n (-1) ∧ Onto g w W) (fun W => Done base w W g (m.does n 13).1 n (m.does n 13).2) [.pointer (some ⟨g, 0, none⟩), .pointer (some ⟨g, 0, none⟩), .pointer (some ⟨g, 0, none⟩), .pointer (some ⟨g, 0, none⟩), .pointer (some ⟨g, 2, none⟩), .int .i64 m.a, .pointer (some ⟨g, 0, none⟩), .pointer (some ⟨g, 0, none⟩), .pointer (some ⟨g, 25, none⟩), .int .i64 n, .int .i64 (bits .and .i64 m.a n), .tuple #[]] ⟨h.drew, (Onto.refl g w).drew⟩ ?step ?last ?done
  case step =>
    intro L ix o' A W hne hi hI hg hd
    have hin : ix < 12 := by
      by_cases hl : ix < 12
      · exact hl
      · simp [hl] at hi
    rcases ix with _ | ix
    · obtain rfl := (Option.some.inj hi).symm
      have e0 : A.eval (.tmp 0) = .pointer (some ⟨g, 0, none⟩) := hI.old 0 (by kernel_rfl)
      exact at_op rfl rfl (move_op rfl ⟨_, rfl, e0, hg⟩)
    rcases ix with _ | ix
    · obtain rfl := (Option.some.inj hi).symm
      have e0 : A.eval (.tmp 0) = .pointer (some ⟨g, 0, none⟩) := hI.old 0 (by kernel_rfl)
      exact at_op rfl rfl (move_op rfl ⟨_, rfl, e0, hg⟩)
    rcases ix with _ | ix
    · obtain rfl := (Option.some.inj hi).symm
      have e0 : A.eval (.tmp 3) = .pointer (some ⟨g, 0, none⟩) := hI.val hd 1 3 rfl rfl (by kernel_rfl)
      exact at_op rfl rfl (nil_op rfl e0 ⟨_, rfl, rfl, hg⟩)
    rcases ix with _ | ix
    · obtain rfl := (Option.some.inj hi).symm
      have e0 : A.eval (.tmp 4) = .pointer (some ⟨g, 0, none⟩) := hI.val hd 2 4 rfl rfl (by kernel_rfl)
      refine at_op rfl rfl (val_op (v := .pointer (some ⟨g, 0, none⟩)) ?_ ⟨_, rfl, rfl, hg⟩)
      unfold execOp
      simp only [List.getElem_toArray, List.getElem_cons_zero, List.getElem_cons_succ, e0]
      simp [go_sem]
    rcases ix with _ | ix
    · obtain rfl := (Option.some.inj hi).symm
      have e0 : A.eval (.tmp 5) = .pointer (some ⟨g, 0, none⟩) := hI.val hd 3 5 rfl rfl (by kernel_rfl)
      refine at_op rfl rfl (val_op (v := .pointer (some ⟨g, 2, none⟩)) ?_ ⟨_, rfl, rfl, hg⟩)
      unfold execOp
      simp only [List.getElem_toArray, List.getElem_cons_zero, List.getElem_cons_succ, e0]
      simp [go_sem]
    rcases ix with _ | ix
    · obtain rfl := (Option.some.inj hi).symm
      have e0 : A.eval (.tmp 6) = .pointer (some ⟨g, 2, none⟩) := hI.val hd 4 6 rfl rfl (by kernel_rfl)
      exact at_op rfl rfl (load_op rfl Tryz.underlying2 e0 (dw hg.1.row).a ⟨_, rfl, rfl, hg⟩)
    rcases ix with _ | ix
    · obtain rfl := (Option.some.inj hi).symm
      have e0 : A.eval (.tmp 0) = .pointer (some ⟨g, 0, none⟩) := hI.old 0 (by kernel_rfl)
      exact at_op rfl rfl (move_op rfl ⟨_, rfl, e0, hg⟩)
    rcases ix with _ | ix
    · obtain rfl := (Option.some.inj hi).symm
      have e0 : A.eval (.tmp 8) = .pointer (some ⟨g, 0, none⟩) := hI.val hd 6 8 rfl rfl (by kernel_rfl)
      exact at_op rfl rfl (nil_op rfl e0 ⟨_, rfl, rfl, hg⟩)
    rcases ix with _ | ix
    · obtain rfl := (Option.some.inj hi).symm
      have e0 : A.eval (.tmp 9) = .pointer (some ⟨g, 0, none⟩) := hI.val hd 7 9 rfl rfl (by kernel_rfl)
      refine at_op rfl rfl (val_op (v := .pointer (some ⟨g, 25, none⟩)) ?_ ⟨_, rfl, rfl, hg⟩)
      unfold execOp
      simp only [List.getElem_toArray, List.getElem_cons_zero, List.getElem_cons_succ, e0]
      simp [go_sem]
    rcases ix with _ | ix
    · obtain rfl := (Option.some.inj hi).symm
      have e0 : A.eval (.tmp 10) = .pointer (some ⟨g, 25, none⟩) := hI.val hd 8 10 rfl rfl (by kernel_rfl)
      exact at_op rfl rfl (load_op rfl Tryz.underlying2 e0 (dw hg.1.row).n ⟨_, rfl, rfl, hg⟩)
    rcases ix with _ | ix
    · obtain rfl := (Option.some.inj hi).symm
      have e0 : A.eval (.tmp 7) = .int .i64 m.a := hI.val hd 5 7 rfl rfl (by kernel_rfl)
      have e1 : A.eval (.tmp 11) = .int .i64 n := hI.val hd 9 11 rfl rfl (by kernel_rfl)
      exact at_op rfl rfl (bin_op rfl e0 e1 (fun w => by simp [go_sem]) ⟨_, rfl, rfl, hg⟩)
    rcases ix with _ | ix
    · exact absurd rfl hne
    omega
  case last =>
    intro L o' A W hi hI hg hd
    obtain rfl := (Option.some.inj hi).symm
    have e0 : A.eval (.tmp 2) = .pointer (some ⟨g, 0, none⟩) := hI.val hd 0 2 rfl rfl (by kernel_rfl)
    have e1 : A.eval (.tmp 12) = .int .i64 (bits .and .i64 m.a n) := hI.val hd 10 12 rfl rfl (by kernel_rfl)
    refine at_op rfl rfl (call_op rfl Tryz.func77 (by kernel_rfl) (by kernel_rfl) ?_)
    simp only [List.map_cons, List.map_nil, e0, e1]
    refine (makeA_impl hg.1 _ _).mono ?_
    rintro e w1 ⟨rfl, x1, y1, h1, o1⟩
    exact ⟨_, rfl, _, rfl, rfl, .mk h1 (hg.2.trans o1)⟩
  case done =>
    intro A W hI hE
    exact ret_unit rfl hI.defers ⟨rfl, hE⟩
set_option maxRecDepth 100000 in
theorem xor_impl (h : DSt base w g x y m n (-1)) (hok : m.ok = true) (hn : bok n = true) :
    Calls Tryz.prog 84 #[.pointer (some ⟨g, 0, none⟩)] w fun e w' => e = .returned (.tuple #[]) ∧ Done base w w' g (m.does n 14).1 n (m.does n 14).2 := by
  go_enter Tryz.func84, Tryz.ntmps84
  go_wp2_with fail
  refine region_last (by kernel_rfl) (by kernel_rfl) 11 (by decide) (by kernel_rfl) (by kernel_rfl) (fun W => DSt base W g x y m n (-1) ∧ Onto g w W) (fun W => Done base w W g (m.does n 14).1 n (m.does n 14).2) [.pointer (some ⟨g, 0, none⟩), .pointer (some ⟨g, 0, none⟩), .pointer (some ⟨g, 0, none⟩), .pointer (some ⟨g, 0, none⟩), .pointer (some ⟨g, 2, none⟩), .int .i64 m.a, .pointer (some ⟨g, 0, none⟩), .pointer (some ⟨g, 0, none⟩), .pointer (some ⟨g, 25, none⟩), .int .i64 n, .int .i64 (bits .xor .i64 m.a n), .tuple #[]] ⟨h.drew, (Onto.refl g w).drew⟩ ?step ?last ?done
  case step =>
    intro L ix o' A W hne hi hI hg hd
    have hin : ix < 12 := by
      by_cases hl : ix < 12
      · exact hl
      · simp [hl] at hi
    rcases ix with _ | ix
    · obtain rfl := (Option.some.inj hi).symm
      have e0 : A.eval (.tmp 0) = .pointer (some ⟨g, 0, none⟩) := hI.old 0 (by kernel_rfl)
      exact at_op rfl rfl (move_op rfl ⟨_, rfl, e0, hg⟩)
    rcases ix with _ | ix
    · obtain rfl := (Option.some.inj hi).symm
      have e0 : A.eval (.tmp 0) = .pointer (some ⟨g, 0, none⟩) := hI.old 0 (by kernel_rfl)
      exact at_op rfl rfl (move_op rfl ⟨_, rfl, e0, hg⟩)
    rcases ix with _ | ix
    · obtain rfl := (Option.some.inj hi).symm
      have e0 : A.eval (.tmp 3) = .pointer (some ⟨g, 0, none⟩) := hI.val hd 1 3 rfl rfl (by kernel_rfl)
      exact at_op rfl rfl (nil_op rfl e0 ⟨_, rfl, rfl, hg⟩)
    rcases ix with _ | ix
    · obtain rfl := (Option.some.inj hi).symm
      have e0 : A.eval (.tmp 4) = .pointer (some ⟨g, 0, none⟩) := hI.val hd 2 4 rfl rfl (by kernel_rfl)
      refine at_op rfl rfl (val_op (v := .pointer (some ⟨g, 0, none⟩)) ?_ ⟨_, rfl, rfl, hg⟩)
      unfold execOp
      simp only [List.getElem_toArray, List.getElem_cons_zero, List.getElem_cons_succ, e0]
      simp [go_sem]
    rcases ix with _ | ix
    · obtain rfl := (Option.some.inj hi).symm
      have e0 : A.eval (.tmp 5) = .pointer (some ⟨g, 0, none⟩) := hI.val hd 3 5 rfl rfl (by kernel_rfl)
      refine at_op rfl rfl (val_op (v := .pointer (some ⟨g, 2, none⟩)) ?_ ⟨_, rfl, rfl, hg⟩)
      unfold execOp
      simp only [List.getElem_toArray, List.getElem_cons_zero, List.getElem_cons_succ, e0]
      simp [go_sem]
    rcases ix with _ | ix
    · obtain rfl := (Option.some.inj hi).symm
      have e0 : A.eval (.tmp 6) = .pointer (some ⟨g, 2, none⟩) := hI.val hd 4 6 rfl rfl (by kernel_rfl)
      exact at_op rfl rfl (load_op rfl Tryz.underlying2 e0 (dw hg.1.row).a ⟨_, rfl, rfl, hg⟩)
    rcases ix with _ | ix
    · obtain rfl := (Option.some.inj hi).symm
      have e0 : A.eval (.tmp 0) = .pointer (some ⟨g, 0, none⟩) := hI.old 0 (by kernel_rfl)
      exact at_op rfl rfl (move_op rfl ⟨_, rfl, e0, hg⟩)
    rcases ix with _ | ix
    · obtain rfl := (Option.some.inj hi).symm
      have e0 : A.eval (.tmp 8) = .pointer (some ⟨g, 0, none⟩) := hI.val hd 6 8 rfl rfl (by kernel_rfl)
      exact at_op rfl rfl (nil_op rfl e0 ⟨_, rfl, rfl, hg⟩)
    rcases ix with _ | ix
    · obtain rfl := (Option.some.inj hi).symm
      have e0 : A.eval (.tmp 9) = .pointer (some ⟨g, 0, none⟩) := hI.val hd 7 9 rfl rfl (by kernel_rfl)
      refine at_op rfl rfl (val_op (v := .pointer (some ⟨g, 25, none⟩)) ?_ ⟨_, rfl, rfl, hg⟩)
      unfold execOp
      simp only [List.getElem_toArray, List.getElem_cons_zero, List.getElem_cons_succ, e0]
      simp [go_sem]
    rcases ix with _ | ix
    · obtain rfl := (Option.some.inj hi).symm
      have e0 : A.eval (.tmp 10) = .pointer (some ⟨g, 25, none⟩) := hI.val hd 8 10 rfl rfl (by kernel_rfl)
      exact at_op rfl rfl (load_op rfl Tryz.underlying2 e0 (dw hg.1.row).n ⟨_, rfl, rfl, hg⟩)
    rcases ix with _ | ix
    · obtain rfl := (Option.some.inj hi).symm
      have e0 : A.eval (.tmp 7) = .int .i64 m.a := hI.val hd 5 7 rfl rfl (by kernel_rfl)
      have e1 : A.eval (.tmp 11) = .int .i64 n := hI.val hd 9 11 rfl rfl (by kernel_rfl)
      exact at_op rfl rfl (bin_op rfl e0 e1 (fun w => by simp [go_sem]) ⟨_, rfl, rfl, hg⟩)
    rcases ix with _ | ix
    · exact absurd rfl hne
    omega
  case last =>
    intro L o' A W hi hI hg hd
    obtain rfl := (Option.some.inj hi).symm
    have e0 : A.eval (.tmp 2) = .pointer (some ⟨g, 0, none⟩) := hI.val hd 0 2 rfl rfl (by kernel_rfl)
    have e1 : A.eval (.tmp 12) = .int .i64 (bits .xor .i64 m.a n) := hI.val hd 10 12 rfl rfl (by kernel_rfl)
    refine at_op rfl rfl (call_op rfl Tryz.func77 (by kernel_rfl) (by kernel_rfl) ?_)
    simp only [List.map_cons, List.map_nil, e0, e1]
    refine (makeA_impl hg.1 _ _).mono ?_
    rintro e w1 ⟨rfl, x1, y1, h1, o1⟩
    exact ⟨_, rfl, _, rfl, rfl, .mk h1 (hg.2.trans o1)⟩
  case done =>
    intro A W hI hE
    exact ret_unit rfl hI.defers ⟨rfl, hE⟩
theorem rol_impl (h : DSt base w g x y m n (-1)) (hok : m.ok = true) (hn : bok n = true) :
    Calls Tryz.prog 85 #[.pointer (some ⟨g, 0, none⟩)] w fun e w' => e = .returned (.tuple #[]) ∧ Done base w w' g (m.does n 15).1 n (m.does n 15).2 := by
  have hc := (dw h.row).a
  go_enter Tryz.func85, Tryz.ntmps85
  go_wp2_with (first
    | (go_at_call 86; refine (turnedLeft_impl _ _).mono ?_; rintro e w0 ⟨rfl, rfl⟩)
    | (go_at_call 77; refine (makeA_impl h _ _).mono ?_; rintro e w1 ⟨rfl, x1, y1, h1, o1⟩))
  refine ret_unit rfl rfl ?_
  exact ⟨rfl, .mk h1 o1⟩
theorem ror_impl (h : DSt base w g x y m n (-1)) (hok : m.ok = true) (hn : bok n = true) :
    Calls Tryz.prog 87 #[.pointer (some ⟨g, 0, none⟩)] w fun e w' => e = .returned (.tuple #[]) ∧ Done base w w' g (m.does n 16).1 n (m.does n 16).2 := by
  have hc := (dw h.row).a
  go_enter Tryz.func87, Tryz.ntmps87
  go_wp2_with (first
    | (go_at_call 88; refine (turnedRight_impl _ _).mono ?_; rintro e w0 ⟨rfl, rfl⟩)
    | (go_at_call 77; refine (makeA_impl h _ _).mono ?_; rintro e w1 ⟨rfl, x1, y1, h1, o1⟩))
  refine ret_unit rfl rfl ?_
  exact ⟨rfl, .mk h1 o1⟩
theorem inb_impl (h : DSt base w g x y m n (-1)) (hok : m.ok = true) (hn : bok n = true) :
    Calls Tryz.prog 89 #[.pointer (some ⟨g, 0, none⟩)] w fun e w' => e = .returned (.tuple #[]) ∧ Done base w w' g (m.does n 17).1 n (m.does n 17).2 := by
  have hc := (dw h.row).b
  go_enter Tryz.func89, Tryz.ntmps89
  go_wp2_with (first
    | (go_at_call 65; refine (addByte_impl _ _ _).mono ?_; rintro e w0 ⟨rfl, rfl⟩)
    | (go_at_call 90; refine (countB_impl h _ _).mono ?_; rintro e w1 ⟨rfl, x1, y1, h1, o1⟩))
  refine ret_unit rfl rfl ?_
  exact ⟨rfl, .mk h1 o1⟩
theorem deb_impl (h : DSt base w g x y m n (-1)) (hok : m.ok = true) (hn : bok n = true) :
    Calls Tryz.prog 91 #[.pointer (some ⟨g, 0, none⟩)] w fun e w' => e = .returned (.tuple #[]) ∧ Done base w w' g (m.does n 18).1 n (m.does n 18).2 := by
  have hc := (dw h.row).b
  go_enter Tryz.func91, Tryz.ntmps91
  go_wp2_with (first
    | (go_at_call 80; refine (subByte_impl _ _ _).mono ?_; rintro e w0 ⟨rfl, rfl⟩)
    | (go_at_call 90; refine (countB_impl h _ _).mono ?_; rintro e w1 ⟨rfl, x1, y1, h1, o1⟩))
  refine ret_unit rfl rfl ?_
  exact ⟨rfl, .mk h1 o1⟩
theorem jmp_impl (h : DSt base w g x y m n (-1)) (hok : m.ok = true) (hn : bok n = true) :
    Calls Tryz.prog 92 #[.pointer (some ⟨g, 0, none⟩)] w fun e w' => e = .returned (.tuple #[]) ∧ Done base w w' g (m.does n 19).1 n (m.does n 19).2 := by
  go_enter Tryz.func92, Tryz.ntmps92
  go_wp2_with (first
    | (go_at_call 93; refine (jumpWhere_impl h _).mono ?_; rintro e w1 ⟨rfl, x1, y1, h1, o1⟩))
  refine ret_unit rfl rfl ?_
  exact ⟨rfl, .mk h1 o1⟩
theorem jpz_impl (h : DSt base w g x y m n (-1)) (hok : m.ok = true) (hn : bok n = true) :
    Calls Tryz.prog 94 #[.pointer (some ⟨g, 0, none⟩)] w fun e w' => e = .returned (.tuple #[]) ∧ Done base w w' g (m.does n 20).1 n (m.does n 20).2 := by
  have hc := (dw h.row).z
  go_enter Tryz.func94, Tryz.ntmps94
  go_wp2_with (first
    | (go_at_call 93; refine (jumpWhere_impl h _).mono ?_; rintro e w1 ⟨rfl, x1, y1, h1, o1⟩))
  refine ret_unit rfl rfl ?_
  exact ⟨rfl, .mk h1 o1⟩
theorem jnz_impl (h : DSt base w g x y m n (-1)) (hok : m.ok = true) (hn : bok n = true) :
    Calls Tryz.prog 95 #[.pointer (some ⟨g, 0, none⟩)] w fun e w' => e = .returned (.tuple #[]) ∧ Done base w w' g (m.does n 21).1 n (m.does n 21).2 := by
  have hc := (dw h.row).z
  go_enter Tryz.func95, Tryz.ntmps95
  go_wp2_with (first
    | (go_at_call 93; refine (jumpWhere_impl h _).mono ?_; rintro e w1 ⟨rfl, x1, y1, h1, o1⟩))
  refine ret_unit rfl rfl ?_
  exact ⟨rfl, .mk h1 o1⟩
theorem jpc_impl (h : DSt base w g x y m n (-1)) (hok : m.ok = true) (hn : bok n = true) :
    Calls Tryz.prog 96 #[.pointer (some ⟨g, 0, none⟩)] w fun e w' => e = .returned (.tuple #[]) ∧ Done base w w' g (m.does n 22).1 n (m.does n 22).2 := by
  have hc := (dw h.row).c
  go_enter Tryz.func96, Tryz.ntmps96
  go_wp2_with (first
    | (go_at_call 93; refine (jumpWhere_impl h _).mono ?_; rintro e w1 ⟨rfl, x1, y1, h1, o1⟩))
  refine ret_unit rfl rfl ?_
  exact ⟨rfl, .mk h1 o1⟩
theorem cal_impl (h : DSt base w g x y m n (-1)) (hok : m.ok = true) (hn : bok n = true) :
    Calls Tryz.prog 97 #[.pointer (some ⟨g, 0, none⟩)] w fun e w' => e = .returned (.tuple #[]) ∧ Done base w w' g (m.does n 23).1 n (m.does n 23).2 := by
  have hc := (dw h.row).pc
  go_enter Tryz.func97, Tryz.ntmps97
  go_wp2_with (first
    | (go_at_call 98; refine (push_impl h hok _ (okm.1 hok).pc).mono ?_; rintro e w1 ⟨rfl, x1, y1, h1, o1⟩; have hc1 := (dw h1.row).n)
    | (refine st_dn (m' := (m.does n 23).1) (n' := n) (o' := (m.does n 23).2) rfl rfl rfl rfl h1.row rfl rfl ?_; intro w2 r2 o2 s2))
  refine ret_unit rfl rfl ?_
  exact ⟨rfl, .mk (h1.set r2 o2 rfl rfl) (o1.trans o2)⟩
theorem ret_impl (h : DSt base w g x y m n (-1)) (hok : m.ok = true) (hn : bok n = true) :
    Calls Tryz.prog 99 #[.pointer (some ⟨g, 0, none⟩)] w fun e w' => e = .returned (.tuple #[]) ∧ Done base w w' g (m.does n 24).1 n (m.does n 24).2 := by
  go_enter Tryz.func99, Tryz.ntmps99
  go_wp2_with (first
    | (go_at_call 100; refine (popped_impl h hok).mono ?_; rintro e w1 ⟨rfl, x1, y1, h1, o1⟩)
    | (refine st_dn (m' := (m.does n 24).1) (n' := n) (o' := -1) rfl rfl rfl rfl h1.row rfl rfl ?_; intro w2 r2 o2 s2; have h2 := h1.set r2 o2 rfl rfl))
  refine ret_unit rfl rfl ?_
  exact ⟨rfl, .mk h2 (o1.trans o2)⟩
theorem psh_impl (h : DSt base w g x y m n (-1)) (hok : m.ok = true) (hn : bok n = true) :
    Calls Tryz.prog 101 #[.pointer (some ⟨g, 0, none⟩)] w fun e w' => e = .returned (.tuple #[]) ∧ Done base w w' g (m.does n 25).1 n (m.does n 25).2 := by
  have hc := (dw h.row).a
  go_enter Tryz.func101, Tryz.ntmps101
  go_wp2_with (first
    | (go_at_call 98; refine (push_impl h hok _ (okm.1 hok).a).mono ?_; rintro e w1 ⟨rfl, x1, y1, h1, o1⟩; have hc1 := (dw h1.row).n))
  refine ret_unit rfl rfl ?_
  exact ⟨rfl, .mk h1 o1⟩
theorem pop_impl (h : DSt base w g x y m n (-1)) (hok : m.ok = true) (hn : bok n = true) :
    Calls Tryz.prog 102 #[.pointer (some ⟨g, 0, none⟩)] w fun e w' => e = .returned (.tuple #[]) ∧ Done base w w' g (m.does n 26).1 n (m.does n 26).2 := by
  go_enter Tryz.func102, Tryz.ntmps102
  go_wp2_with (first
    | (go_at_call 100; refine (popped_impl h hok).mono ?_; rintro e w1 ⟨rfl, x1, y1, h1, o1⟩)
    | (refine st_dn (m' := (m.does n 26).1) (n' := n) (o' := -1) rfl rfl rfl rfl h1.row rfl rfl ?_; intro w2 r2 o2 s2; have h2 := h1.set r2 o2 rfl rfl))
  refine ret_unit rfl rfl ?_
  exact ⟨rfl, .mk h2 (o1.trans o2)⟩
theorem eni_impl (h : DSt base w g x y m n (-1)) (hok : m.ok = true) (hn : bok n = true) :
    Calls Tryz.prog 103 #[.pointer (some ⟨g, 0, none⟩)] w fun e w' => e = .returned (.tuple #[]) ∧ Done base w w' g (m.does n 27).1 n (m.does n 27).2 := by
  go_enter Tryz.func103, Tryz.ntmps103
  go_wp2_with (refine st_db (m' := (m.does n 27).1) rfl rfl rfl rfl h.row rfl rfl ?_; intro w1 r1 o1 s1)
  refine ret_unit rfl rfl ?_
  exact ⟨rfl, .mk (h.set r1 o1 rfl rfl) o1⟩
theorem dis_impl (h : DSt base w g x y m n (-1)) (hok : m.ok = true) (hn : bok n = true) :
    Calls Tryz.prog 104 #[.pointer (some ⟨g, 0, none⟩)] w fun e w' => e = .returned (.tuple #[]) ∧ Done base w w' g (m.does n 28).1 n (m.does n 28).2 := by
  go_enter Tryz.func104, Tryz.ntmps104
  go_wp2_with (refine st_db (m' := (m.does n 28).1) rfl rfl rfl rfl h.row rfl rfl ?_; intro w1 r1 o1 s1)
  refine ret_unit rfl rfl ?_
  exact ⟨rfl, .mk (h.set r1 o1 rfl rfl) o1⟩
theorem rti_impl (h : DSt base w g x y m n (-1)) (hok : m.ok = true) (hn : bok n = true) :
    Calls Tryz.prog 105 #[.pointer (some ⟨g, 0, none⟩)] w fun e w' => e = .returned (.tuple #[]) ∧ Done base w w' g (m.does n 29).1 n (m.does n 29).2 := by
  go_enter Tryz.func105, Tryz.ntmps105
  go_wp2_with (first
    | (go_at_call 100; refine (popped_impl h hok).mono ?_; rintro e w1 ⟨rfl, x1, y1, h1, o1⟩)
    | (refine st_dn (m' := { m.popd with pc := m.top }) (n' := n) (o' := -1) rfl rfl rfl rfl h1.row rfl rfl ?_; intro w2 r2 o2 s2; have h2 := h1.set r2 o2 rfl rfl)
    | (refine st_db (m' := (m.does n 29).1) rfl rfl rfl rfl h2.row rfl rfl ?_; intro w3 r3 o3 s3))
  refine ret_unit rfl rfl ?_
  exact ⟨rfl, .mk (h2.set r3 o3 rfl rfl) ((o1.trans o2).trans o3)⟩
theorem hlt_impl (h : DSt base w g x y m n (-1)) (hok : m.ok = true) (hn : bok n = true) :
    Calls Tryz.prog 106 #[.pointer (some ⟨g, 0, none⟩)] w fun e w' => e = .returned (.tuple #[]) ∧ Done base w w' g (m.does n 30).1 n (m.does n 30).2 := by
  go_enter Tryz.func106, Tryz.ntmps106
  go_wp2_with (refine st_db (m' := (m.does n 30).1) rfl rfl rfl rfl h.row rfl rfl ?_; intro w1 r1 o1 s1)
  refine ret_unit rfl rfl ?_
  exact ⟨rfl, .mk (h.set r1 o1 rfl rfl) o1⟩
end
end Go.Proofs.YtmbncgeiaijnpaaGreatDoor.Mem
