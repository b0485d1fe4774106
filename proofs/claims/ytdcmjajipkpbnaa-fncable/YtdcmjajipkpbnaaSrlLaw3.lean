/-
  The law of the cable.
-/
import Derived.Test.YtdcmjajipkpbnaaSrlLaw2
namespace Go.Proofs.Ytdcmjajipkpbnaa.Srl
open Go.ChangeShapes Go.WideShapes Go.RowKit Base Num Slc Rw Reg Tmr
set_option linter.unusedVariables false

theorem big_any' (a : Option Addr) (len cap : Nat) (w : World) :
    Calls Try.prog 10 #[.slice a len cap] w fun e w' => e = .returned (.bool (decide ((4096 : Int) < (len : Int)))) ∧ w' = w := by
  go_enter Try.func10, Try.ntmps10
  go_wp2
  go_ret
  exact ⟨rfl, rfl⟩
section
variable {p B : Nat} {x : Int} {f f' : Nat → Value} {w w' : World}
theorem t6_0 (e : f' 28 = f 28) (h : T6 p B x 0 f w) : T6 p B x 0 f' w' := e.trans h
theorem t6_1 (e : f' 29 = f 29) (h : T6 p B x 1 f w) : T6 p B x 1 f' w' := e.trans h
theorem t6_2 (e : f' 30 = f 30) (h : T6 p B x 2 f w) : T6 p B x 2 f' w' := by obtain ⟨r, h1, h2⟩ := h; exact ⟨r, e.trans h1, h2⟩
theorem t6_3 (e : f' 31 = f 31) (h : T6 p B x 3 f w) : T6 p B x 3 f' w' := by obtain ⟨r, h1, h2⟩ := h; exact ⟨r, e.trans h1, h2⟩
theorem t6_4 (e : f' 6 = f 6) (h : T6 p B x 4 f w) {i : Nat} (hr : R6 B i w w') : T6 p B x 4 f' w' := by
  obtain ⟨b, cs, h1, h2, h3, h4⟩ := h
  by_cases hi : i = 5
  · subst hi
    obtain ⟨b', cs', hs', rfl⟩ := hr
    obtain ⟨c, hc, r⟩ := row_any (b' := b') h4 h3 hs'
    exact ⟨b, c, e.trans h1, h2, hc, r⟩
  · unfold R6 at hr
    rw [if_neg hi] at hr
    exact ⟨b, cs, e.trans h1, h2, h3, row_rel h4 h2 hr⟩
theorem t6_5 (e : f' 6 = f 6) (h : T6 p B x 5 f w) {i : Nat} (hi : i ≠ 5) (hr : R6 B i w w') : T6 p B x 5 f' w' := by
  obtain ⟨b, r, h1, h2, h3, h4⟩ := h
  unfold R6 at hr
  rw [if_neg hi] at hr
  exact ⟨b, r, e.trans h1, h2, h3, row_rel h4 h2 hr⟩
theorem r6_rel {i : Nat} (hi : i ≠ 5) (hr : Rel (fun k => k < B) w w') : R6 B i w w' := by unfold R6; rw [if_neg hi]; exact hr
end
theorem alloc_sr {Q : Exit → Act → World → Prop} {a : Act} {o : Oper} {W : World} {K : Act → World → Prop} (ho : o.op = .alloc 29) (h : K (a.put o.dst (.pointer (some ⟨W.heap.size, 0, none⟩))) (W.alloc (.cells #[.int .i64 0, .bool false, .bool false, .int .i64 0, .int .i64 0, .bool false] 29))) : o.wp Try.prog a W K Q := by
  have e : (execOp a.eval o).run Try.prog W = .ok (.value (.pointer (some ⟨W.heap.size, 0, none⟩))) (W.alloc (.cells #[.int .i64 0, .bool false, .bool false, .int .i64 0, .int .i64 0, .bool false] 29)) := by
    unfold execOp
    rw [ho]
    simp [go_sem]
  unfold Oper.wp
  rw [e]
  exact h
set_option maxHeartbeats 8000000 in
set_option maxRecDepth 100000 in
theorem cable_any (a : Option Addr) (len cap : Nat) (w : World) (hc : CodeAt w a len) :
    Calls Try.prog 3 #[.slice a len cap] w fun e w' => e = .returned (.bool true) ∧ Below w.heap.size w w' := by
  by_cases hl : len ≤ 4096
  · have hs : decide ((4096 : Int) < (len : Int)) = false := by simp; omega
    go_enter Try.func3, Try.ntmps3
    go_wp2_with (go_at_call 10; refine (big_any' _ _ _ _).mono ?_; rintro e w1 ⟨rfl, rfl⟩; rw [hs])
    go_at_call 11
    refine (Dice.roll_any a len cap _ _ hc hl).mono ?_
    rintro e w2 ⟨rfl, hb2, hd⟩
    have hB := hb2
    clear hb2
    go_wp2_with fail
    go_at_call 12
    refine (Dice.below_any _ a len cap _ _ hd (by omega)).mono ?_
    rintro e w3 ⟨x, rfl, hx, ho3, hd3⟩
    replace hB := below_onto hB ho3 (Nat.le_refl _)
    have hl3 := hd3.lt
    replace hd := hd3.below ((Below.refl _ _).alloc (Nat.le_refl _) (.cells #[.int .i64 (x : Int), .bool false, .bool false, .int .i64 0, .int .i64 0, .bool false] 29))
    have r4 := Row.new w3 #[.int .i64 (x : Int), .bool false, .bool false, .int .i64 0, .int .i64 0, .bool false] 29
    replace hB := hB.alloc hB.size (.cells #[.int .i64 (x : Int), .bool false, .bool false, .int .i64 0, .int .i64 0, .bool false] 29)
    clear ho3 hd3
    go_wp2_with fail
    go_at_call 12
    refine (Dice.below_any _ a len cap _ _ hd (by omega)).mono ?_
    rintro e w4 ⟨y, rfl, hy, ho4, hd4⟩
    replace hB := below_onto hB ho4 (Nat.le_refl _)
    replace r4 := (r4.onto ho4 (by omega)).alloc (.cells #[.int .i64 (y : Int), .bool false, .bool false, .int .i64 0, .int .i64 0, .bool false] 29)
    have hl4 := hd4.lt
    have hl34 := ho4.size
    simp at hl34
    have r5 := Row.new w4 #[.int .i64 (y : Int), .bool false, .bool false, .int .i64 0, .int .i64 0, .bool false] 29
    replace hd := hd4.below ((Below.refl _ _).alloc (Nat.le_refl _) (.cells #[.int .i64 (y : Int), .bool false, .bool false, .int .i64 0, .int .i64 0, .bool false] 29))
    replace hB := hB.alloc hB.size (.cells #[.int .i64 (y : Int), .bool false, .bool false, .int .i64 0, .int .i64 0, .bool false] 29)
    clear ho4 hd4
    go_wp2
    have hq : Q6 w1 w1.heap.size a len w3.heap.size w4.heap.size (w4.heap.size + 1) := ⟨Nat.le_refl _, by omega, by omega, by omega, by omega, hc.lt⟩
    have hG : G6 w1 w1.heap.size a len cap w3.heap.size w4.heap.size x y _ := ⟨hd, r4, r5, hB⟩
    have hW : w4.heap.size + 1 ≤ (w4.alloc (.cells #[.int .i64 (y : Int), .bool false, .bool false, .int .i64 0, .int .i64 0, .bool false] 29)).heap.size := by simp
    clear hd r4 r5 hB
    refine region_gen (by kernel_rfl) (by kernel_rfl) (fun W => G6 w1 w1.heap.size a len cap w3.heap.size w4.heap.size x y W ∧ w4.heap.size + 1 ≤ W.heap.size) (T6 w1.heap.size (w4.heap.size + 1) x) (R6 (w4.heap.size + 1)) ?mono ⟨hG.drew, hW⟩ ?step ?done
    case mono =>
      intro L i j oi oj f f' W W' hi hj hLi hLj hdp hf hT hR
      have hi6 : i < 6 := by
        by_cases hl : i < 6
        · exact hl
        · simp [hl] at hi
      have hj6 : j < 6 := by
        by_cases hl : j < 6
        · exact hl
        · simp [hl] at hj
      obtain rfl | rfl | rfl | rfl | rfl | rfl : i = 0 ∨ i = 1 ∨ i = 2 ∨ i = 3 ∨ i = 4 ∨ i = 5 := by omega
      · obtain rfl | rfl | rfl | rfl | rfl | rfl : j = 0 ∨ j = 1 ∨ j = 2 ∨ j = 3 ∨ j = 4 ∨ j = 5 := by omega
        · exact absurd (hLi.symm.trans hLj) (by simp)
        · obtain rfl := (Option.some.inj hi).symm; obtain rfl := (Option.some.inj hj).symm
          exact t6_1 (hf 29 (by simp)) hT
        · obtain rfl := (Option.some.inj hi).symm; obtain rfl := (Option.some.inj hj).symm
          exact t6_2 (hf 30 (by simp)) hT
        · obtain rfl := (Option.some.inj hi).symm; obtain rfl := (Option.some.inj hj).symm
          exact t6_3 (hf 31 (by simp)) hT
        · obtain rfl := (Option.some.inj hi).symm; obtain rfl := (Option.some.inj hj).symm
          exact t6_4 (hf 6 (by simp)) hT hR
        · obtain rfl := (Option.some.inj hi).symm; obtain rfl := (Option.some.inj hj).symm
          exact t6_5 (hf 6 (by simp)) hT (by omega) hR
      · obtain rfl | rfl | rfl | rfl | rfl | rfl : j = 0 ∨ j = 1 ∨ j = 2 ∨ j = 3 ∨ j = 4 ∨ j = 5 := by omega
        · obtain rfl := (Option.some.inj hi).symm; obtain rfl := (Option.some.inj hj).symm
          exact t6_0 (hf 28 (by simp)) hT
        · exact absurd (hLi.symm.trans hLj) (by simp)
        · obtain rfl := (Option.some.inj hi).symm; obtain rfl := (Option.some.inj hj).symm
          exact t6_2 (hf 30 (by simp)) hT
        · obtain rfl := (Option.some.inj hi).symm; obtain rfl := (Option.some.inj hj).symm
          exact t6_3 (hf 31 (by simp)) hT
        · obtain rfl := (Option.some.inj hi).symm; obtain rfl := (Option.some.inj hj).symm
          exact t6_4 (hf 6 (by simp)) hT hR
        · obtain rfl := (Option.some.inj hi).symm; obtain rfl := (Option.some.inj hj).symm
          exact t6_5 (hf 6 (by simp)) hT (by omega) hR
      · obtain rfl | rfl | rfl | rfl | rfl | rfl : j = 0 ∨ j = 1 ∨ j = 2 ∨ j = 3 ∨ j = 4 ∨ j = 5 := by omega
        · obtain rfl := (Option.some.inj hi).symm; obtain rfl := (Option.some.inj hj).symm
          exact t6_0 (hf 28 (by simp)) hT
        · obtain rfl := (Option.some.inj hi).symm; obtain rfl := (Option.some.inj hj).symm
          exact t6_1 (hf 29 (by simp)) hT
        · exact absurd (hLi.symm.trans hLj) (by simp)
        · obtain rfl := (Option.some.inj hi).symm; obtain rfl := (Option.some.inj hj).symm
          exact t6_3 (hf 31 (by simp)) hT
        · obtain rfl := (Option.some.inj hi).symm; obtain rfl := (Option.some.inj hj).symm
          exact t6_4 (hf 6 (by simp)) hT hR
        · obtain rfl := (Option.some.inj hi).symm; obtain rfl := (Option.some.inj hj).symm
          exact t6_5 (hf 6 (by simp)) hT (by omega) hR
      · obtain rfl | rfl | rfl | rfl | rfl | rfl : j = 0 ∨ j = 1 ∨ j = 2 ∨ j = 3 ∨ j = 4 ∨ j = 5 := by omega
        · obtain rfl := (Option.some.inj hi).symm; obtain rfl := (Option.some.inj hj).symm
          exact t6_0 (hf 28 (by simp)) hT
        · obtain rfl := (Option.some.inj hi).symm; obtain rfl := (Option.some.inj hj).symm
          exact t6_1 (hf 29 (by simp)) hT
        · obtain rfl := (Option.some.inj hi).symm; obtain rfl := (Option.some.inj hj).symm
          exact t6_2 (hf 30 (by simp)) hT
        · exact absurd (hLi.symm.trans hLj) (by simp)
        · obtain rfl := (Option.some.inj hi).symm; obtain rfl := (Option.some.inj hj).symm
          exact t6_4 (hf 6 (by simp)) hT hR
        · obtain rfl := (Option.some.inj hi).symm; obtain rfl := (Option.some.inj hj).symm
          exact t6_5 (hf 6 (by simp)) hT (by omega) hR
      · obtain rfl | rfl | rfl | rfl | rfl | rfl : j = 0 ∨ j = 1 ∨ j = 2 ∨ j = 3 ∨ j = 4 ∨ j = 5 := by omega
        · obtain rfl := (Option.some.inj hi).symm; obtain rfl := (Option.some.inj hj).symm
          exact t6_0 (hf 28 (by simp)) hT
        · obtain rfl := (Option.some.inj hi).symm; obtain rfl := (Option.some.inj hj).symm
          exact t6_1 (hf 29 (by simp)) hT
        · obtain rfl := (Option.some.inj hi).symm; obtain rfl := (Option.some.inj hj).symm
          exact t6_2 (hf 30 (by simp)) hT
        · obtain rfl := (Option.some.inj hi).symm; obtain rfl := (Option.some.inj hj).symm
          exact t6_3 (hf 31 (by simp)) hT
        · exact absurd (hLi.symm.trans hLj) (by simp)
        · obtain rfl := (Option.some.inj hi).symm; obtain rfl := (Option.some.inj hj).symm
          exact absurd (hLi.symm.trans (hdp 4 (List.contains_iff_mem.1 (by kernel_rfl)))) (by simp)
      · obtain rfl | rfl | rfl | rfl | rfl | rfl : j = 0 ∨ j = 1 ∨ j = 2 ∨ j = 3 ∨ j = 4 ∨ j = 5 := by omega
        · obtain rfl := (Option.some.inj hi).symm; obtain rfl := (Option.some.inj hj).symm
          exact t6_0 (hf 28 (by simp)) hT
        · obtain rfl := (Option.some.inj hi).symm; obtain rfl := (Option.some.inj hj).symm
          exact t6_1 (hf 29 (by simp)) hT
        · obtain rfl := (Option.some.inj hi).symm; obtain rfl := (Option.some.inj hj).symm
          exact t6_2 (hf 30 (by simp)) hT
        · obtain rfl := (Option.some.inj hi).symm; obtain rfl := (Option.some.inj hj).symm
          exact t6_3 (hf 31 (by simp)) hT
        · obtain rfl := (Option.some.inj hi).symm; obtain rfl := (Option.some.inj hj).symm
          exact t6_4 (hf 6 (by simp)) hT hR
        · exact absurd (hLi.symm.trans hLj) (by simp)
    case step =>
      intro L ix o A W hi hI hL hd
      have hin : ix < 6 := by
        by_cases hl : ix < 6
        · exact hl
        · simp [hl] at hi
      have hsz : A.tmps.size = 123 := hI.size
      obtain ⟨hg, hgw⟩ := hI.g
      rcases ix with _ | ix
      · obtain rfl := (Option.some.inj hi).symm
        have e : A.eval (.tmp 4) = .pointer (some ⟨w3.heap.size, 0, none⟩) := hI.old 4 (by kernel_rfl)
        exact at_op rfl rfl (wp_load_row _ _ rfl _ e _ _ _ _ hg.r4.row und_sr rfl info_sr ⟨_, rfl, getD_put_same _ _ _ (by omega), ⟨hg, hgw⟩, r6_rel (by omega) (Rel.refl _ _)⟩)
      rcases ix with _ | ix
      · obtain rfl := (Option.some.inj hi).symm
        have e : A.eval (.tmp 3) = .pointer (some ⟨w1.heap.size, 0, none⟩) := hI.old 3 (by kernel_rfl)
        exact at_op rfl rfl (move_op rfl ⟨_, rfl, (getD_put_same _ _ _ (by omega)).trans e, ⟨hg, hgw⟩, r6_rel (by omega) (Rel.refl _ _)⟩)
      rcases ix with _ | ix
      · obtain rfl := (Option.some.inj hi).symm
        have e : A.eval (.tmp 29) = .pointer (some ⟨w1.heap.size, 0, none⟩) := hI.get hd 1 rfl (by kernel_rfl)
        refine at_op rfl rfl (call_op rfl Try.func12 (by kernel_rfl) (by kernel_rfl) ?_)
        simp only [List.map_cons, List.map_nil, e]
        refine (Dice.below_any _ a len cap 100 W hg.dice (by omega)).mono ?_
        rintro e w5 ⟨r, rfl, hr, ho5, hd5⟩
        exact ⟨_, rfl, _, rfl, ⟨r, getD_put_same _ _ _ (by omega), hr⟩, ⟨hg.onto hq ho5 hd5, Nat.le_trans hgw ho5.size⟩, r6_rel (by omega) (Rel.onto ho5 (by omega))⟩
      rcases ix with _ | ix
      · obtain rfl := (Option.some.inj hi).symm
        have e1 : A.eval (.tmp 28) = (idle x).val := hI.get hd 0 rfl (by kernel_rfl)
        obtain ⟨r, e2, hr⟩ : ∃ r : Nat, A.eval (.tmp 30) = .int .i64 (r : Int) ∧ (r : Int) < 100 := hI.get hd 2 rfl (by kernel_rfl)
        refine at_op rfl rfl (call_op rfl Try.func13 (by kernel_rfl) (by kernel_rfl) ?_)
        simp only [List.map_cons, List.map_nil, e1, e2]
        refine (serialStart_impl (idle x) true r W).mono ?_
        rintro e w5 ⟨rfl, hb5⟩
        exact ⟨_, rfl, _, rfl, ⟨r, getD_put_same _ _ _ (by omega), hr⟩, ⟨hg.below hb5, Nat.le_trans hgw hb5.size⟩, r6_rel (by omega) (Rel.below hb5)⟩
      rcases ix with _ | ix
      · obtain rfl := (Option.some.inj hi).symm
        refine at_op rfl rfl (alloc_sr rfl ⟨_, rfl, ⟨W.heap.size, #[.int .i64 0, .bool false, .bool false, .int .i64 0, .int .i64 0, .bool false], getD_put_same _ _ _ (by omega), hgw, rfl, Row.new _ _ _⟩, ⟨hg.below ((Below.refl _ _).alloc (Nat.le_refl _) _), by simp; omega⟩, r6_rel (by omega) (Rel.alloc _ _ _)⟩)
      rcases ix with _ | ix
      · obtain rfl := (Option.some.inj hi).symm
        obtain ⟨b, oc, e2, hbB, hrs, hr⟩ : ∃ (b : Nat) (cs : Array Value), A.eval (.tmp 6) = .pointer (some ⟨b, 0, none⟩) ∧ w4.heap.size + 1 ≤ b ∧ cs.size = 6 ∧ Row W b cs 29 := hI.get hd 4 rfl (by kernel_rfl)
        obtain ⟨r, e1, hr1⟩ : ∃ r : Nat, A.eval (.tmp 31) = ((idle x).start true (r : Int)).val ∧ (r : Int) < 100 := hI.get hd 3 rfl (by kernel_rfl)
        exact at_op rfl rfl (wp_store_row _ _ _ rfl _ _ e2 e1 _ _ hr.row info_sr hrs (by simp [Value.oneCell']) ⟨undef, rfl, ⟨b, r, e2, hbB, hr1, Row.of (setRow_heap W _ _ _ _ _ hr.row)⟩, ⟨hg.set hq hbB _, by simp; exact hgw⟩, ⟨b, _, rfl, rfl⟩⟩)
      omega
    case done =>
      intro A W hI
      obtain ⟨hg, hgw⟩ := hI.g
      obtain ⟨b, r, e6, hbB, hr100, r6⟩ := hI.told 5 _ rfl rfl
      replace e6 : A.tmps.getD 6 undef = .pointer (some ⟨b, 0, none⟩) := e6
      have e4 : A.tmps.getD 4 undef = .pointer (some ⟨w3.heap.size, 0, none⟩) := hI.old 4 (by kernel_rfl)
      have e5 : A.tmps.getD 5 undef = .pointer (some ⟨w4.heap.size, 0, none⟩) := hI.old 5 (by kernel_rfl)
      have hA := frame_lit A 123 hI.size
      have hde : A.defers = [] := hI.defers
      rw [hde, show List.range 123 = [0, 1, 2, 3, 4, 5, 6, 7, 8, 9, 10, 11, 12, 13, 14, 15, 16, 17, 18, 19, 20, 21, 22, 23, 24, 25, 26, 27, 28, 29, 30, 31, 32, 33, 34, 35, 36, 37, 38, 39, 40, 41, 42, 43, 44, 45, 46, 47, 48, 49, 50, 51, 52, 53, 54, 55, 56, 57, 58, 59, 60, 61, 62, 63, 64, 65, 66, 67, 68, 69, 70, 71, 72, 73, 74, 75, 76, 77, 78, 79, 80, 81, 82, 83, 84, 85, 86, 87, 88, 89, 90, 91, 92, 93, 94, 95, 96, 97, 98, 99, 100, 101, 102, 103, 104, 105, 106, 107, 108, 109, 110, 111, 112, 113, 114, 115, 116, 117, 118, 119, 120, 121, 122] from rfl] at hA
      simp only [List.map_cons, List.map_nil, e4, e5, e6] at hA
      rw [hA]
      clear hA e4 e5 e6 hI hde hG hW
      have hp0 : 0 ≤ (x : Int) ∧ (x : Int) ≤ 255 := by omega
      have hq0 : 0 ≤ (y : Int) ∧ (y : Int) ≤ 255 := by omega
      obtain ⟨hst1, hst2⟩ := cable_start (x : Int) (r : Int) hp0 (by omega) (y : Int) hq0
      obtain ⟨AA, hAA⟩ : ∃ AA : Int, (r : Int) + 32 = AA := ⟨_, rfl⟩
      have hA1 : 32 ≤ AA ∧ AA ≤ 1000 := by omega
      rw [hAA] at hst1
      have e0 : (idle (x : Int)).start true (r : Int) = cx 0 x y AA := hst1
      have e1 : (idle (y : Int)).start false 0 = cy 0 x y := hst2
      rw [e0] at r6
      clear e0 hst1 hst2 hAA hr100
      have c5 := hg.r5.cell
      have hib : ∀ z : Int, (idle z).d = z ∧ (idle z).b = false ∧ (idle z).l = false ∧ (idle z).n = 0 ∧ (idle z).x = 0 ∧ (idle z).t = false := fun z => ⟨rfl, rfl, rfl, rfl, rfl, rfl⟩
      have hlr6 := r6.lt
      go_wp2_with fail
      go_at_call 13
      refine (serialStart_impl (idle y) false 0 _).mono ?_
      rw [e1]
      rintro e w5 ⟨rfl, hb5⟩
      have hG : Gc w1 w3.heap.size w4.heap.size b w5.heap.size x y (cx 0 x y AA) (cy 0 x y) (w5.alloc (.cells #[.int .i64 (cy 0 x y).d, .bool (cy 0 x y).b, .bool (cy 0 x y).l, .int .i64 (cy 0 x y).n, .int .i64 (cy 0 x y).x, .bool (cy 0 x y).t] 29)) := ⟨(hg.r4.below hb5).alloc _, (hg.r5.below hb5).alloc _, (r6.below hb5).alloc _, Row.new _ _ _, (hg.bel.trans (hb5.mono hg.bel.size)).alloc (Nat.le_trans hg.bel.size hb5.size) _⟩
      have hlb : b < w5.heap.size := Nat.lt_of_lt_of_le hlr6 hb5.size
      have hw1b : w1.heap.size ≤ b := by omega
      clear c5 hb5 r6 hg e1
      rw [Sr.eta]
      have c6 := hG.r6.cell
      go_wp2_with fail
      clear c6
      go_loopw [8, 9] (fun av nv wr => ∃ k : Nat, k ≤ 8 ∧ nv = .int .i64 ((k : Int) + 1) ∧ av = .int .i64 (cx k x y AA).x ∧ Gc w1 w3.heap.size w4.heap.size b w5.heap.size x y (cx k x y AA) (cy k x y) wr) (fun _ nv _ => 9 - (intOf nv).toNat)
      case atStart => exact ⟨0, by omega, rfl, rfl, hG⟩
      case round =>
        obtain ⟨k, hk, rfl, rfl, hr⟩ := hrel
        clear hG
        by_cases hk8 : k < 8
        · obtain ⟨U, bit, ans, h1, h2, h3, hU, hV, hZ, hx0, hx1⟩ := cable_round k hk8 x y AA hp0 hq0 hA1
          generalize hXe : cx k x y AA = X at *
          generalize hYe : cy k x y = Y at *
          generalize hVe : cy (k + 1) x y = V at *
          generalize hZe : cx (k + 1) x y AA = Z at *
          clear hXe hYe
          have HVe : Hid (cy (k + 1) x y = V) := hVe
          have HZe : Hid (cx (k + 1) x y AA = Z) := hZe
          clear hVe hZe
          have hle : (k : Int) + 1 ≤ 8 := by omega
          by_cases h7 : k = 7
          · have hthr : decide (k = 7) = true := by simp; omega
            have hn8 : (((k : Int) + 1) == 8) = true := by simp; omega
            rw [hthr] at h2 h3
            have H7 : Hid (k = 7) := h7
            clear h7
            have H1 : Hid (X.send X.x = (U, X.x, bit)) := h1
            have H2 : Hid (Y.beat bit = (V, ans, true)) := h2
            have H3 : Hid (U.answer ans (X.x + 16) = (Z, true)) := h3
            clear h1 h2 h3 hthr
            have c6 := hr.r6.cell
            have l6 := hr.r6.lt
            go_wp2_with fail
            go_at_call 14
            refine (serialSends_impl X X.x _).mono ?_
            rw [H1.out]
            rintro e w6 ⟨rfl, hb6⟩
            clear c6 l6
            replace hr := (hr.below hb6).alloc (.cells #[.int .i64 U.d, .bool U.b, .bool U.l, .int .i64 U.n, .int .i64 U.x, .bool U.t] 29)
            have r10 := Row.new w6 #[.int .i64 U.d, .bool U.b, .bool U.l, .int .i64 U.n, .int .i64 U.x, .bool U.t] 29
            clear hb6
            rw [Sr.eta]
            have c7 := hr.r7.cell
            have l7 := hr.r7.lt
            go_wp2_with fail
            go_at_call 15
            refine (serialBeat_impl Y bit _).mono ?_
            rw [H2.out]
            rintro e w7 ⟨rfl, hb7⟩
            clear c7 l7
            have nb7 := (hr.below hb7).r6.lt
            have nc7 := (hr.below hb7).r7.lt
            replace hr := (hr.below hb7).alloc (.cells #[.int .i64 V.d, .bool V.b, .bool V.l, .int .i64 V.n, .int .i64 V.x, .bool V.t] 29)
            replace r10 := (r10.below hb7).alloc (.cells #[.int .i64 V.d, .bool V.b, .bool V.l, .int .i64 V.n, .int .i64 V.x, .bool V.t] 29)
            have r13 := Row.new w7 #[.int .i64 V.d, .bool V.b, .bool V.l, .int .i64 V.n, .int .i64 V.x, .bool V.t] 29
            clear hb7
            rw [Sr.eta]
            have c10 := r10.cell
            have l10 := r10.lt
            go_wp2_with fail
            go_at_call 16
            refine (serialAnswer_impl U ans (X.x + 16) _).mono ?_
            rw [H3.out]
            rintro e w8 ⟨rfl, hb8⟩
            clear c10 l10
            replace hr := (hr.below hb8).alloc (.cells #[.int .i64 Z.d, .bool Z.b, .bool Z.l, .int .i64 Z.n, .int .i64 Z.x, .bool Z.t] 29)
            replace r10 := (r10.below hb8).alloc (.cells #[.int .i64 Z.d, .bool Z.b, .bool Z.l, .int .i64 Z.n, .int .i64 Z.x, .bool Z.t] 29)
            replace r13 := (r13.below hb8).alloc (.cells #[.int .i64 Z.d, .bool Z.b, .bool Z.l, .int .i64 Z.n, .int .i64 Z.x, .bool Z.t] 29)
            have r16 := Row.new w8 #[.int .i64 Z.d, .bool Z.b, .bool Z.l, .int .i64 Z.n, .int .i64 Z.x, .bool Z.t] 29
            clear hb8
            rw [Sr.eta]
            have c10 := r10.cell
            have c13 := r13.cell
            have l10 := r10.lt
            go_wp2_with fail
            go_at_call 17
            refine (serialOk_impl U _).mono ?_
            rw [hU]
            rintro e w9 ⟨rfl, hb9⟩
            replace hr := hr.below hb9
            replace r13 := r13.below hb9
            replace r16 := r16.below hb9
            clear c10 c13 l10 hb9 r10
            have c13 := r13.cell
            go_wp2_with fail
            go_at_call 17
            refine (serialOk_impl V _).mono ?_
            rw [hV]
            rintro e w10 ⟨rfl, hb10⟩
            replace hr := hr.below hb10
            replace r13 := r13.below hb10
            replace r16 := r16.below hb10
            clear c13 hb10
            have c16 := r16.cell
            go_wp2_with fail
            go_at_call 17
            refine (serialOk_impl Z _).mono ?_
            rw [hZ]
            rintro e w11 ⟨rfl, hb11⟩
            replace hr := hr.below hb11
            replace r13 := r13.below hb11
            replace r16 := r16.below hb11
            clear c16 hb11
            have c16 := r16.cell
            have c13 := r13.cell
            have n13 := r13.lt
            go_wp2_with (first
              | (refine st_sr rfl rfl rfl rfl hr.r6 rfl ?_; intro w12 q6 ho12 hs12; have c13' := (r13.onto ho12 (by omega)).cell; have q7 := hr.r7.onto ho12 (by omega))
              | (refine st_sr rfl rfl rfl rfl q7 rfl ?_; intro w13 q7' ho13 hs13))
            go_roundw
            case rel =>
              refine ⟨k + 1, by omega, by simp, by rw [HZe.out], ?_⟩
              rw [HZe.out, HVe.out]
              exact ⟨(hr.r4.onto ho12 (by omega)).onto ho13 (by omega), (hr.r5.onto ho12 (by omega)).onto ho13 (by omega), q6.onto ho13 (by omega), q7', below_onto (below_onto hr.bel ho12 (by omega)) ho13 (by omega)⟩
            case measure => simp [intOf]; omega
          · have hthr : decide (k = 7) = false := by simp; omega
            have hn8 : (((k : Int) + 1) == 8) = false := by simp; omega
            rw [hthr] at h2 h3
            have H1 : Hid (X.send X.x = (U, X.x, bit)) := h1
            have H2 : Hid (Y.beat bit = (V, ans, false)) := h2
            have H3 : Hid (U.answer ans (X.x + 16) = (Z, false)) := h3
            clear h1 h2 h3 hthr
            have c6 := hr.r6.cell
            have l6 := hr.r6.lt
            go_wp2_with fail
            go_at_call 14
            refine (serialSends_impl X X.x _).mono ?_
            rw [H1.out]
            rintro e w6 ⟨rfl, hb6⟩
            clear c6 l6
            replace hr := (hr.below hb6).alloc (.cells #[.int .i64 U.d, .bool U.b, .bool U.l, .int .i64 U.n, .int .i64 U.x, .bool U.t] 29)
            have r10 := Row.new w6 #[.int .i64 U.d, .bool U.b, .bool U.l, .int .i64 U.n, .int .i64 U.x, .bool U.t] 29
            clear hb6
            rw [Sr.eta]
            have c7 := hr.r7.cell
            have l7 := hr.r7.lt
            go_wp2_with fail
            go_at_call 15
            refine (serialBeat_impl Y bit _).mono ?_
            rw [H2.out]
            rintro e w7 ⟨rfl, hb7⟩
            clear c7 l7
            have nb7 := (hr.below hb7).r6.lt
            have nc7 := (hr.below hb7).r7.lt
            replace hr := (hr.below hb7).alloc (.cells #[.int .i64 V.d, .bool V.b, .bool V.l, .int .i64 V.n, .int .i64 V.x, .bool V.t] 29)
            replace r10 := (r10.below hb7).alloc (.cells #[.int .i64 V.d, .bool V.b, .bool V.l, .int .i64 V.n, .int .i64 V.x, .bool V.t] 29)
            have r13 := Row.new w7 #[.int .i64 V.d, .bool V.b, .bool V.l, .int .i64 V.n, .int .i64 V.x, .bool V.t] 29
            clear hb7
            rw [Sr.eta]
            have c10 := r10.cell
            have l10 := r10.lt
            go_wp2_with fail
            go_at_call 16
            refine (serialAnswer_impl U ans (X.x + 16) _).mono ?_
            rw [H3.out]
            rintro e w8 ⟨rfl, hb8⟩
            clear c10 l10
            replace hr := (hr.below hb8).alloc (.cells #[.int .i64 Z.d, .bool Z.b, .bool Z.l, .int .i64 Z.n, .int .i64 Z.x, .bool Z.t] 29)
            replace r10 := (r10.below hb8).alloc (.cells #[.int .i64 Z.d, .bool Z.b, .bool Z.l, .int .i64 Z.n, .int .i64 Z.x, .bool Z.t] 29)
            replace r13 := (r13.below hb8).alloc (.cells #[.int .i64 Z.d, .bool Z.b, .bool Z.l, .int .i64 Z.n, .int .i64 Z.x, .bool Z.t] 29)
            have r16 := Row.new w8 #[.int .i64 Z.d, .bool Z.b, .bool Z.l, .int .i64 Z.n, .int .i64 Z.x, .bool Z.t] 29
            clear hb8
            rw [Sr.eta]
            have c10 := r10.cell
            have c13 := r13.cell
            have l10 := r10.lt
            go_wp2_with fail
            go_at_call 17
            refine (serialOk_impl U _).mono ?_
            rw [hU]
            rintro e w9 ⟨rfl, hb9⟩
            replace hr := hr.below hb9
            replace r13 := r13.below hb9
            replace r16 := r16.below hb9
            clear c10 c13 l10 hb9 r10
            have c13 := r13.cell
            go_wp2_with fail
            go_at_call 17
            refine (serialOk_impl V _).mono ?_
            rw [hV]
            rintro e w10 ⟨rfl, hb10⟩
            replace hr := hr.below hb10
            replace r13 := r13.below hb10
            replace r16 := r16.below hb10
            clear c13 hb10
            have c16 := r16.cell
            go_wp2_with fail
            go_at_call 17
            refine (serialOk_impl Z _).mono ?_
            rw [hZ]
            rintro e w11 ⟨rfl, hb11⟩
            replace hr := hr.below hb11
            replace r13 := r13.below hb11
            replace r16 := r16.below hb11
            clear c16 hb11
            have c16 := r16.cell
            have c13 := r13.cell
            have n13 := r13.lt
            go_wp2_with (first
              | (refine st_sr rfl rfl rfl rfl hr.r6 rfl ?_; intro w12 q6 ho12 hs12; have c13' := (r13.onto ho12 (by omega)).cell; have q7 := hr.r7.onto ho12 (by omega))
              | (refine st_sr rfl rfl rfl rfl q7 rfl ?_; intro w13 q7' ho13 hs13))
            go_roundw
            case rel =>
              refine ⟨k + 1, by omega, by simp, by rw [HZe.out], ?_⟩
              rw [HZe.out, HVe.out]
              exact ⟨(hr.r4.onto ho12 (by omega)).onto ho13 (by omega), (hr.r5.onto ho12 (by omega)).onto ho13 (by omega), q6.onto ho13 (by omega), q7', below_onto (below_onto hr.bel ho12 (by omega)) ho13 (by omega)⟩
            case measure => simp [intOf]; omega
        · obtain rfl : k = 8 := by omega
          rw [cx_end, cy_end] at hr
          have c4 := hr.r4.cell
          have c5 := hr.r5.cell
          have c6 := hr.r6.cell
          have c7 := hr.r7.cell
          rw [cx_end]
          go_wp2
          go_ret
          exact ⟨rfl, hr.bel⟩
  · have hs : decide ((4096 : Int) < (len : Int)) = true := by simp; omega
    go_enter Try.func3, Try.ntmps3
    go_wp2_with (go_at_call 10; refine (big_any' _ _ _ _).mono ?_; rintro e w1 ⟨rfl, rfl⟩; rw [hs])
    go_ret
    exact ⟨rfl, Below.refl _ _⟩
end Go.Proofs.Ytdcmjajipkpbnaa.Srl
