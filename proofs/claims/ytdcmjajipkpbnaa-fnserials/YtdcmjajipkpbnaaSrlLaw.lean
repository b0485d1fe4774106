/-
  Starts, beats, answers and what is sent are as the document tells.
-/
import Derived.Test.YtdcmjajipkpbnaaSrlDraw3
import Derived.Test.YtdcmjajipkpbnaaSrlI5
namespace Go.Proofs.Ytdcmjajipkpbnaa.Srl
open Go.ChangeShapes Go.WideShapes Go.RowKit Base Num Slc Rw Reg Tmr Draw
set_option linter.unusedVariables false

theorem big_any (a : Option Addr) (len cap : Nat) (w : World) :
    Calls Try.prog 10 #[.slice a len cap] w fun e w' => e = .returned (.bool (decide ((4096 : Int) < (len : Int)))) ∧ w' = w := by
  go_enter Try.func10, Try.ntmps10
  go_wp2
  go_ret
  exact ⟨rfl, rfl⟩
structure Gl (w : World) (L : List (Nat × Array Value × TypeId)) (W : World) : Prop where
  rows : Rw.Rows W L
  bel : Below w.heap.size w W
theorem Gl.drew {w W : World} {L : List (Nat × Array Value × TypeId)} (h : Gl w L W) : Gl w L W.drew := ⟨h.rows.drew, h.bel.drew⟩
theorem Gl.below {w W W' : World} {L : List (Nat × Array Value × TypeId)} (h : Gl w L W) (hb : Below W.heap.size W W') : Gl w L W' := ⟨h.rows.below hb, h.bel.trans (hb.mono h.bel.size)⟩
set_option maxHeartbeats 8000000 in
set_option maxRecDepth 100000 in
theorem serials_any (a : Option Addr) (len cap : Nat) (w : World) (hc : CodeAt w a len) :
    Calls Try.prog 4 #[.slice a len cap] w fun e w' => e = .returned (.bool true) ∧ Below w.heap.size w w' := by
  by_cases hl : len ≤ 4096
  · have hs : decide ((4096 : Int) < (len : Int)) = false := by simp; omega
    go_enter Try.func4, Try.ntmps4
    go_wp2_with (go_at_call 10; refine (big_any _ _ _ _).mono ?_; rintro e w1 ⟨rfl, rfl⟩; rw [hs])
    have hR : Rw.Rows w1 [] := Rw.Rows.none _
    have hB : Below w1.heap.size w1 w1 := Below.refl _ _
    go_at_call 18
    refine (drawSerialStart_any a len cap _ (hc.below hB) hl).mono ?_
    rintro e w2 ⟨s, q, n, rfl, hb⟩
    replace hR := hR.below hb
    replace hB := hB.trans (hb.mono hB.size)
    rw [Sr.eta]
    replace hR := hR.alloc #[.int .i64 s.d, .bool s.b, .bool s.l, .int .i64 s.n, .int .i64 s.x, .bool s.t] 29
    replace hB := hB.alloc hB.size (.cells #[.int .i64 s.d, .bool s.b, .bool s.l, .int .i64 s.n, .int .i64 s.x, .bool s.t] 29)
    clear hb
    go_wp2_with fail
    go_at_call 19
    refine (drawSerialSends_any a len cap _ (hc.below hB) hl).mono ?_
    rintro e w3 ⟨t, upto, rfl, hb⟩
    replace hR := hR.below hb
    replace hB := hB.trans (hb.mono hB.size)
    rw [Sr.eta]
    replace hR := hR.alloc #[.int .i64 t.d, .bool t.b, .bool t.l, .int .i64 t.n, .int .i64 t.x, .bool t.t] 29
    replace hB := hB.alloc hB.size (.cells #[.int .i64 t.d, .bool t.b, .bool t.l, .int .i64 t.n, .int .i64 t.x, .bool t.t] 29)
    clear hb
    go_wp2_with fail
    go_at_call 20
    refine (drawSerialBeat_any a len cap _ (hc.below hB) hl).mono ?_
    rintro e w4 ⟨b, bit, rfl, hb⟩
    replace hR := hR.below hb
    replace hB := hB.trans (hb.mono hB.size)
    rw [Sr.eta]
    replace hR := hR.alloc #[.int .i64 b.d, .bool b.b, .bool b.l, .int .i64 b.n, .int .i64 b.x, .bool b.t] 29
    replace hB := hB.alloc hB.size (.cells #[.int .i64 b.d, .bool b.b, .bool b.l, .int .i64 b.n, .int .i64 b.x, .bool b.t] 29)
    clear hb
    go_wp2_with fail
    go_at_call 21
    refine (drawSerialAnswer_any a len cap _ (hc.below hB) hl).mono ?_
    rintro e w5 ⟨g, c, z, rfl, hb⟩
    replace hR := hR.below hb
    replace hB := hB.trans (hb.mono hB.size)
    rw [Sr.eta]
    replace hR := hR.alloc #[.int .i64 g.d, .bool g.b, .bool g.l, .int .i64 g.n, .int .i64 g.x, .bool g.t] 29
    replace hB := hB.alloc hB.size (.cells #[.int .i64 g.d, .bool g.b, .bool g.l, .int .i64 g.n, .int .i64 g.x, .bool g.t] 29)
    clear hb
    obtain ⟨X, hX⟩ : ∃ X, t.send upto = X := ⟨_, rfl⟩
    obtain ⟨F, hF⟩ : ∃ F, b.beat bit = F := ⟨_, rfl⟩
    obtain ⟨Y, hY⟩ : ∃ Y, g.answer c z = Y := ⟨_, rfl⟩
    obtain ⟨S, hS⟩ : ∃ S, s.start q n = S := ⟨_, rfl⟩
    have HX : Hid (t.send upto = X) := hX
    have HF : Hid (b.beat bit = F) := hF
    have HY : Hid (g.answer c z = Y) := hY
    have HS : Hid (s.start q n = S) := hS
    clear hX hF hY hS
    have cc := (hR.at 2 rfl).cell
    have lc := (hR.at 2 rfl).lt
    go_wp2_with fail
    go_at_call 14
    refine (serialSends_impl t upto _).mono ?_
    rw [HX.out]
    rintro e w6 ⟨rfl, hb⟩
    replace hR := hR.below hb
    replace hB := hB.trans (hb.mono hB.size)
    clear cc lc
    rw [Sr.eta]
    replace hR := hR.alloc #[.int .i64 X.1.d, .bool X.1.b, .bool X.1.l, .int .i64 X.1.n, .int .i64 X.1.x, .bool X.1.t] 29
    replace hB := hB.alloc hB.size (.cells #[.int .i64 X.1.d, .bool X.1.b, .bool X.1.l, .int .i64 X.1.n, .int .i64 X.1.x, .bool X.1.t] 29)
    clear hb
    have cc := (hR.at 3 rfl).cell
    have lc := (hR.at 3 rfl).lt
    go_wp2_with fail
    go_at_call 22
    refine (serialSends_spec t upto _).mono ?_
    rw [HX.out]
    rintro e w7 ⟨rfl, hb⟩
    replace hR := hR.below hb
    replace hB := hB.trans (hb.mono hB.size)
    clear cc lc
    rw [Sr.eta]
    replace hR := hR.alloc #[.int .i64 X.1.d, .bool X.1.b, .bool X.1.l, .int .i64 X.1.n, .int .i64 X.1.x, .bool X.1.t] 29
    replace hB := hB.alloc hB.size (.cells #[.int .i64 X.1.d, .bool X.1.b, .bool X.1.l, .int .i64 X.1.n, .int .i64 X.1.x, .bool X.1.t] 29)
    clear hb
    have cc := (hR.at 3 rfl).cell
    have lc := (hR.at 3 rfl).lt
    go_wp2_with fail
    go_at_call 15
    refine (serialBeat_impl b bit _).mono ?_
    rw [HF.out]
    rintro e w8 ⟨rfl, hb⟩
    replace hR := hR.below hb
    replace hB := hB.trans (hb.mono hB.size)
    clear cc lc
    rw [Sr.eta]
    replace hR := hR.alloc #[.int .i64 F.1.d, .bool F.1.b, .bool F.1.l, .int .i64 F.1.n, .int .i64 F.1.x, .bool F.1.t] 29
    replace hB := hB.alloc hB.size (.cells #[.int .i64 F.1.d, .bool F.1.b, .bool F.1.l, .int .i64 F.1.n, .int .i64 F.1.x, .bool F.1.t] 29)
    clear hb
    have cc := (hR.at 4 rfl).cell
    have lc := (hR.at 4 rfl).lt
    go_wp2_with fail
    go_at_call 23
    refine (serialBeat_spec b bit _).mono ?_
    rw [HF.out]
    rintro e w9 ⟨rfl, hb⟩
    replace hR := hR.below hb
    replace hB := hB.trans (hb.mono hB.size)
    clear cc lc
    rw [Sr.eta]
    replace hR := hR.alloc #[.int .i64 F.1.d, .bool F.1.b, .bool F.1.l, .int .i64 F.1.n, .int .i64 F.1.x, .bool F.1.t] 29
    replace hB := hB.alloc hB.size (.cells #[.int .i64 F.1.d, .bool F.1.b, .bool F.1.l, .int .i64 F.1.n, .int .i64 F.1.x, .bool F.1.t] 29)
    clear hb
    have cc := (hR.at 4 rfl).cell
    have lc := (hR.at 4 rfl).lt
    go_wp2_with fail
    go_at_call 16
    refine (serialAnswer_impl g c z _).mono ?_
    rw [HY.out]
    rintro e w10 ⟨rfl, hb⟩
    replace hR := hR.below hb
    replace hB := hB.trans (hb.mono hB.size)
    clear cc lc
    rw [Sr.eta]
    replace hR := hR.alloc #[.int .i64 Y.1.d, .bool Y.1.b, .bool Y.1.l, .int .i64 Y.1.n, .int .i64 Y.1.x, .bool Y.1.t] 29
    replace hB := hB.alloc hB.size (.cells #[.int .i64 Y.1.d, .bool Y.1.b, .bool Y.1.l, .int .i64 Y.1.n, .int .i64 Y.1.x, .bool Y.1.t] 29)
    clear hb
    have cc := (hR.at 5 rfl).cell
    have lc := (hR.at 5 rfl).lt
    go_wp2_with fail
    go_at_call 24
    refine (serialAnswer_spec g c z _).mono ?_
    rw [HY.out]
    rintro e w11 ⟨rfl, hb⟩
    replace hR := hR.below hb
    replace hB := hB.trans (hb.mono hB.size)
    clear cc lc
    rw [Sr.eta]
    replace hR := hR.alloc #[.int .i64 Y.1.d, .bool Y.1.b, .bool Y.1.l, .int .i64 Y.1.n, .int .i64 Y.1.x, .bool Y.1.t] 29
    replace hB := hB.alloc hB.size (.cells #[.int .i64 Y.1.d, .bool Y.1.b, .bool Y.1.l, .int .i64 Y.1.n, .int .i64 Y.1.x, .bool Y.1.t] 29)
    clear hb
    go_wp2_with fail
    have hG : Gl w1 [(w11.heap.size, #[.int .i64 Y.1.d, .bool Y.1.b, .bool Y.1.l, .int .i64 Y.1.n, .int .i64 Y.1.x, .bool Y.1.t], 29), (w10.heap.size, #[.int .i64 Y.1.d, .bool Y.1.b, .bool Y.1.l, .int .i64 Y.1.n, .int .i64 Y.1.x, .bool Y.1.t], 29), (w9.heap.size, #[.int .i64 F.1.d, .bool F.1.b, .bool F.1.l, .int .i64 F.1.n, .int .i64 F.1.x, .bool F.1.t], 29), (w8.heap.size, #[.int .i64 F.1.d, .bool F.1.b, .bool F.1.l, .int .i64 F.1.n, .int .i64 F.1.x, .bool F.1.t], 29), (w7.heap.size, #[.int .i64 X.1.d, .bool X.1.b, .bool X.1.l, .int .i64 X.1.n, .int .i64 X.1.x, .bool X.1.t], 29), (w6.heap.size, #[.int .i64 X.1.d, .bool X.1.b, .bool X.1.l, .int .i64 X.1.n, .int .i64 X.1.x, .bool X.1.t], 29), (w5.heap.size, #[.int .i64 g.d, .bool g.b, .bool g.l, .int .i64 g.n, .int .i64 g.x, .bool g.t], 29), (w4.heap.size, #[.int .i64 b.d, .bool b.b, .bool b.l, .int .i64 b.n, .int .i64 b.x, .bool b.t], 29), (w3.heap.size, #[.int .i64 t.d, .bool t.b, .bool t.l, .int .i64 t.n, .int .i64 t.x, .bool t.t], 29), (w2.heap.size, #[.int .i64 s.d, .bool s.b, .bool s.l, .int .i64 s.n, .int .i64 s.x, .bool s.t], 29)] _ := ⟨hR, hB⟩
    clear hR hB
    refine region_by (by kernel_rfl) (by kernel_rfl) (fun W => Gl w1 [(w11.heap.size, #[.int .i64 Y.1.d, .bool Y.1.b, .bool Y.1.l, .int .i64 Y.1.n, .int .i64 Y.1.x, .bool Y.1.t], 29), (w10.heap.size, #[.int .i64 Y.1.d, .bool Y.1.b, .bool Y.1.l, .int .i64 Y.1.n, .int .i64 Y.1.x, .bool Y.1.t], 29), (w9.heap.size, #[.int .i64 F.1.d, .bool F.1.b, .bool F.1.l, .int .i64 F.1.n, .int .i64 F.1.x, .bool F.1.t], 29), (w8.heap.size, #[.int .i64 F.1.d, .bool F.1.b, .bool F.1.l, .int .i64 F.1.n, .int .i64 F.1.x, .bool F.1.t], 29), (w7.heap.size, #[.int .i64 X.1.d, .bool X.1.b, .bool X.1.l, .int .i64 X.1.n, .int .i64 X.1.x, .bool X.1.t], 29), (w6.heap.size, #[.int .i64 X.1.d, .bool X.1.b, .bool X.1.l, .int .i64 X.1.n, .int .i64 X.1.x, .bool X.1.t], 29), (w5.heap.size, #[.int .i64 g.d, .bool g.b, .bool g.l, .int .i64 g.n, .int .i64 g.x, .bool g.t], 29), (w4.heap.size, #[.int .i64 b.d, .bool b.b, .bool b.l, .int .i64 b.n, .int .i64 b.x, .bool b.t], 29), (w3.heap.size, #[.int .i64 t.d, .bool t.b, .bool t.l, .int .i64 t.n, .int .i64 t.x, .bool t.t], 29), (w2.heap.size, #[.int .i64 s.d, .bool s.b, .bool s.l, .int .i64 s.n, .int .i64 s.x, .bool s.t], 29)] W)
      (kinds [KIs (.agg #[.int .i64 s.d, .bool s.b, .bool s.l, .int .i64 s.n, .int .i64 s.x, .bool s.t]), KIs (.bool q), KIs (.int .i64 n), KIs (.agg #[.int .i64 S.d, .bool S.b, .bool S.l, .int .i64 S.n, .int .i64 S.x, .bool S.t]), KIs (.agg #[.int .i64 s.d, .bool s.b, .bool s.l, .int .i64 s.n, .int .i64 s.x, .bool s.t]), KIs (.bool q), KIs (.int .i64 n), KIs (.agg #[.int .i64 S.d, .bool S.b, .bool S.l, .int .i64 S.n, .int .i64 S.x, .bool S.t]), KIs (.bool true), KIs (.bool true), KIs (.agg #[.int .i64 X.1.d, .bool X.1.b, .bool X.1.l, .int .i64 X.1.n, .int .i64 X.1.x, .bool X.1.t]), KIs (.agg #[.int .i64 X.1.d, .bool X.1.b, .bool X.1.l, .int .i64 X.1.n, .int .i64 X.1.x, .bool X.1.t]), KIs (.bool true), KIs (.bool true), KIs (.bool true), KIs (.int .i64 X.2.1), KIs (.int .i64 X.2.1), KIs (.bool true), KIs (.bool true), KIs (.bool true), KIs (.int .i64 X.2.2), KIs (.int .i64 X.2.2), KIs (.bool true), KIs (.bool true), KIs (.bool true), KIs (.agg #[.int .i64 F.1.d, .bool F.1.b, .bool F.1.l, .int .i64 F.1.n, .int .i64 F.1.x, .bool F.1.t]), KIs (.agg #[.int .i64 F.1.d, .bool F.1.b, .bool F.1.l, .int .i64 F.1.n, .int .i64 F.1.x, .bool F.1.t]), KIs (.bool true), KIs (.bool true), KIs (.bool true), KIs (.int .i64 F.2.1), KIs (.int .i64 F.2.1), KIs (.bool true), KIs (.bool true), KIs (.bool true), KIs (.bool F.2.2), KIs (.bool F.2.2), KIs (.bool true), KIs (.bool true), KIs (.bool true), KIs (.agg #[.int .i64 Y.1.d, .bool Y.1.b, .bool Y.1.l, .int .i64 Y.1.n, .int .i64 Y.1.x, .bool Y.1.t]), KIs (.agg #[.int .i64 Y.1.d, .bool Y.1.b, .bool Y.1.l, .int .i64 Y.1.n, .int .i64 Y.1.x, .bool Y.1.t]), KIs (.bool true), KIs (.bool true), KIs (.bool true), KIs (.bool Y.2), KIs (.bool Y.2), KIs (.bool true), KIs (.bool true), KIs (.bool true), KIs (.agg #[.int .i64 t.d, .bool t.b, .bool t.l, .int .i64 t.n, .int .i64 t.x, .bool t.t]), KIs (.bool t.ok), KIs (.agg #[.int .i64 t.d, .bool t.b, .bool t.l, .int .i64 t.n, .int .i64 t.x, .bool t.t]), KIs (.bool t.ok), KIs (.bool true), KIs (.bool true), KIs (.bool true)])
      (Rel fun _ => True) (by kernel_rfl) (kinds_mono ?mono) hG.drew ?step ?done
    case mono =>
      intro K hK
      simp only [List.mem_cons, List.not_mem_nil, or_false] at hK
      rcases hK with rfl | rfl | rfl | rfl | rfl | rfl | rfl | rfl | rfl | rfl | rfl | rfl | rfl | rfl | rfl | rfl | rfl | rfl | rfl | rfl | rfl | rfl | rfl | rfl | rfl | rfl | rfl | rfl | rfl | rfl | rfl | rfl | rfl | rfl | rfl | rfl | rfl | rfl | rfl | rfl | rfl | rfl | rfl | rfl | rfl | rfl | rfl | rfl | rfl | rfl | rfl | rfl | rfl | rfl | rfl | rfl | rfl
      all_goals first | exact bears_is _ _ | exact bears_any _
    case step =>
      intro L ix o A W hi hI hL hd
      have hin : ix < 57 := by
        by_cases hl : ix < 57
        · exact hl
        · simp [hl] at hi
      have hsz : A.tmps.size = 151 := hI.size
      rcases ix with _ | ix
      · obtain rfl := (Option.some.inj hi).symm
        have e : A.eval (.tmp 3) = .pointer (some ⟨w2.heap.size, 0, none⟩) := hI.old 3 (by kernel_rfl)
        exact at_op rfl rfl (wp_load_row _ _ rfl _ e _ _ _ _ (hI.g.rows.at 9 rfl).row und_sr rfl info_sr ⟨_, rfl, rfl, hI.g, Rel.refl _ _⟩)
      rcases ix with _ | ix
      · obtain rfl := (Option.some.inj hi).symm
        have e : A.eval (.tmp 4) = .bool q := hI.old 4 (by kernel_rfl)
        exact at_op rfl rfl (move_op rfl ⟨_, rfl, e, hI.g, Rel.refl _ _⟩)
      rcases ix with _ | ix
      · obtain rfl := (Option.some.inj hi).symm
        have e : A.eval (.tmp 5) = .int .i64 n := hI.old 5 (by kernel_rfl)
        exact at_op rfl rfl (move_op rfl ⟨_, rfl, e, hI.g, Rel.refl _ _⟩)
      rcases ix with _ | ix
      · obtain rfl := (Option.some.inj hi).symm
        have e0 : A.eval (.tmp 95) = .agg #[.int .i64 s.d, .bool s.b, .bool s.l, .int .i64 s.n, .int .i64 s.x, .bool s.t] := hI.get hd 0 95 rfl (by kernel_rfl)
        have e1 : A.eval (.tmp 96) = .bool q := hI.get hd 1 96 rfl (by kernel_rfl)
        have e2 : A.eval (.tmp 97) = .int .i64 n := hI.get hd 2 97 rfl (by kernel_rfl)
        refine at_op rfl rfl (call_op rfl Try.func13 (by kernel_rfl) (by kernel_rfl) ?_)
        simp only [List.map_cons, List.map_nil, e0, e1, e2]
        refine (serialStart_impl s q n W).mono ?_
        rw [HS.out]; rintro e w12 ⟨rfl, hb⟩
        exact ⟨_, rfl, _, rfl, rfl, hI.g.below hb, Rel.below hb⟩
      rcases ix with _ | ix
      · obtain rfl := (Option.some.inj hi).symm
        have e : A.eval (.tmp 3) = .pointer (some ⟨w2.heap.size, 0, none⟩) := hI.old 3 (by kernel_rfl)
        exact at_op rfl rfl (wp_load_row _ _ rfl _ e _ _ _ _ (hI.g.rows.at 9 rfl).row und_sr rfl info_sr ⟨_, rfl, rfl, hI.g, Rel.refl _ _⟩)
      rcases ix with _ | ix
      · obtain rfl := (Option.some.inj hi).symm
        have e : A.eval (.tmp 4) = .bool q := hI.old 4 (by kernel_rfl)
        exact at_op rfl rfl (move_op rfl ⟨_, rfl, e, hI.g, Rel.refl _ _⟩)
      rcases ix with _ | ix
      · obtain rfl := (Option.some.inj hi).symm
        have e : A.eval (.tmp 5) = .int .i64 n := hI.old 5 (by kernel_rfl)
        exact at_op rfl rfl (move_op rfl ⟨_, rfl, e, hI.g, Rel.refl _ _⟩)
      rcases ix with _ | ix
      · obtain rfl := (Option.some.inj hi).symm
        have e0 : A.eval (.tmp 99) = .agg #[.int .i64 s.d, .bool s.b, .bool s.l, .int .i64 s.n, .int .i64 s.x, .bool s.t] := hI.get hd 4 99 rfl (by kernel_rfl)
        have e1 : A.eval (.tmp 100) = .bool q := hI.get hd 5 100 rfl (by kernel_rfl)
        have e2 : A.eval (.tmp 101) = .int .i64 n := hI.get hd 6 101 rfl (by kernel_rfl)
        refine at_op rfl rfl (call_op rfl Try.func25 (by kernel_rfl) (by kernel_rfl) ?_)
        simp only [List.map_cons, List.map_nil, e0, e1, e2]
        refine (serialStart_spec s q n W).mono ?_
        rw [HS.out]; rintro e w12 ⟨rfl, hb⟩
        exact ⟨_, rfl, _, rfl, rfl, hI.g.below hb, Rel.below hb⟩
      rcases ix with _ | ix
      · obtain rfl := (Option.some.inj hi).symm
        have e1 : A.eval (.tmp 98) = .agg #[.int .i64 S.d, .bool S.b, .bool S.l, .int .i64 S.n, .int .i64 S.x, .bool S.t] := hI.get hd 3 98 rfl (by kernel_rfl)
        have e2 : A.eval (.tmp 102) = .agg #[.int .i64 S.d, .bool S.b, .bool S.l, .int .i64 S.n, .int .i64 S.x, .bool S.t] := hI.get hd 7 102 rfl (by kernel_rfl)
        exact at_op rfl rfl (bin_op rfl e1 e2 (fun w => by simp [go_sem]) ⟨_, rfl, rfl, hI.g, Rel.refl _ _⟩)
      rcases ix with _ | ix
      · obtain rfl := (Option.some.inj hi).symm
        have e : A.eval (.tmp 103) = .bool true := hI.get hd 8 103 rfl (by kernel_rfl)
        exact at_op rfl rfl (move_op rfl ⟨_, rfl, e, hI.g, Rel.refl _ _⟩)
      rcases ix with _ | ix
      · obtain rfl := (Option.some.inj hi).symm
        have hg : A.tmps.getD 104 undef = .bool true := hI.get hd 9 104 rfl (by kernel_rfl)
        have e : A.eval (.tmp 13) = .pointer (some ⟨w6.heap.size, 0, none⟩) := hI.old 13 (by kernel_rfl)
        exact at_guard rfl rfl (j := 9) (k := 104) rfl (by omega) hg (wp_load_row _ _ rfl _ e _ _ _ _ (hI.g.rows.at 5 rfl).row und_sr rfl info_sr ⟨_, rfl, rfl, hI.g, Rel.refl _ _⟩)
      rcases ix with _ | ix
      · obtain rfl := (Option.some.inj hi).symm
        have hg : A.tmps.getD 104 undef = .bool true := hI.get hd 9 104 rfl (by kernel_rfl)
        have e : A.eval (.tmp 16) = .pointer (some ⟨w7.heap.size, 0, none⟩) := hI.old 16 (by kernel_rfl)
        exact at_guard rfl rfl (j := 9) (k := 104) rfl (by omega) hg (wp_load_row _ _ rfl _ e _ _ _ _ (hI.g.rows.at 4 rfl).row und_sr rfl info_sr ⟨_, rfl, rfl, hI.g, Rel.refl _ _⟩)
      rcases ix with _ | ix
      · obtain rfl := (Option.some.inj hi).symm
        have hg : A.tmps.getD 104 undef = .bool true := hI.get hd 9 104 rfl (by kernel_rfl)
        have e1 : A.eval (.tmp 105) = .agg #[.int .i64 X.1.d, .bool X.1.b, .bool X.1.l, .int .i64 X.1.n, .int .i64 X.1.x, .bool X.1.t] := hI.get hd 10 105 rfl (by kernel_rfl)
        have e2 : A.eval (.tmp 106) = .agg #[.int .i64 X.1.d, .bool X.1.b, .bool X.1.l, .int .i64 X.1.n, .int .i64 X.1.x, .bool X.1.t] := hI.get hd 11 106 rfl (by kernel_rfl)
        exact at_guard rfl rfl (j := 9) (k := 104) rfl (by omega) hg (bin_op rfl e1 e2 (fun w => by simp [go_sem]) ⟨_, rfl, rfl, hI.g, Rel.refl _ _⟩)
      rcases ix with _ | ix
      · obtain rfl := (Option.some.inj hi).symm
        have e1 : A.eval (.tmp 104) = .bool true := hI.get hd 9 104 rfl (by kernel_rfl)
        have e2 : A.eval (.tmp 107) = .bool true := hI.get hd 12 107 rfl (by kernel_rfl)
        exact at_op rfl rfl (pick_op rfl e1 ⟨_, rfl, e2, hI.g, Rel.refl _ _⟩)
      rcases ix with _ | ix
      · obtain rfl := (Option.some.inj hi).symm
        have e : A.eval (.tmp 108) = .bool true := hI.get hd 13 108 rfl (by kernel_rfl)
        exact at_op rfl rfl (move_op rfl ⟨_, rfl, e, hI.g, Rel.refl _ _⟩)
      rcases ix with _ | ix
      · obtain rfl := (Option.some.inj hi).symm
        have hg : A.tmps.getD 109 undef = .bool true := hI.get hd 14 109 rfl (by kernel_rfl)
        have e : A.eval (.tmp 14) = .int .i64 X.2.1 := hI.old 14 (by kernel_rfl)
        exact at_guard rfl rfl (j := 14) (k := 109) rfl (by omega) hg (move_op rfl ⟨_, rfl, e, hI.g, Rel.refl _ _⟩)
      rcases ix with _ | ix
      · obtain rfl := (Option.some.inj hi).symm
        have hg : A.tmps.getD 109 undef = .bool true := hI.get hd 14 109 rfl (by kernel_rfl)
        have e : A.eval (.tmp 17) = .int .i64 X.2.1 := hI.old 17 (by kernel_rfl)
        exact at_guard rfl rfl (j := 14) (k := 109) rfl (by omega) hg (move_op rfl ⟨_, rfl, e, hI.g, Rel.refl _ _⟩)
      rcases ix with _ | ix
      · obtain rfl := (Option.some.inj hi).symm
        have hg : A.tmps.getD 109 undef = .bool true := hI.get hd 14 109 rfl (by kernel_rfl)
        have e1 : A.eval (.tmp 110) = .int .i64 X.2.1 := hI.get hd 15 110 rfl (by kernel_rfl)
        have e2 : A.eval (.tmp 111) = .int .i64 X.2.1 := hI.get hd 16 111 rfl (by kernel_rfl)
        exact at_guard rfl rfl (j := 14) (k := 109) rfl (by omega) hg (bin_op rfl e1 e2 (fun w => by simp [go_sem]) ⟨_, rfl, rfl, hI.g, Rel.refl _ _⟩)
      rcases ix with _ | ix
      · obtain rfl := (Option.some.inj hi).symm
        have e1 : A.eval (.tmp 109) = .bool true := hI.get hd 14 109 rfl (by kernel_rfl)
        have e2 : A.eval (.tmp 112) = .bool true := hI.get hd 17 112 rfl (by kernel_rfl)
        exact at_op rfl rfl (pick_op rfl e1 ⟨_, rfl, e2, hI.g, Rel.refl _ _⟩)
      rcases ix with _ | ix
      · obtain rfl := (Option.some.inj hi).symm
        have e : A.eval (.tmp 113) = .bool true := hI.get hd 18 113 rfl (by kernel_rfl)
        exact at_op rfl rfl (move_op rfl ⟨_, rfl, e, hI.g, Rel.refl _ _⟩)
      rcases ix with _ | ix
      · obtain rfl := (Option.some.inj hi).symm
        have hg : A.tmps.getD 114 undef = .bool true := hI.get hd 19 114 rfl (by kernel_rfl)
        have e : A.eval (.tmp 15) = .int .i64 X.2.2 := hI.old 15 (by kernel_rfl)
        exact at_guard rfl rfl (j := 19) (k := 114) rfl (by omega) hg (move_op rfl ⟨_, rfl, e, hI.g, Rel.refl _ _⟩)
      rcases ix with _ | ix
      · obtain rfl := (Option.some.inj hi).symm
        have hg : A.tmps.getD 114 undef = .bool true := hI.get hd 19 114 rfl (by kernel_rfl)
        have e : A.eval (.tmp 18) = .int .i64 X.2.2 := hI.old 18 (by kernel_rfl)
        exact at_guard rfl rfl (j := 19) (k := 114) rfl (by omega) hg (move_op rfl ⟨_, rfl, e, hI.g, Rel.refl _ _⟩)
      rcases ix with _ | ix
      · obtain rfl := (Option.some.inj hi).symm
        have hg : A.tmps.getD 114 undef = .bool true := hI.get hd 19 114 rfl (by kernel_rfl)
        have e1 : A.eval (.tmp 115) = .int .i64 X.2.2 := hI.get hd 20 115 rfl (by kernel_rfl)
        have e2 : A.eval (.tmp 116) = .int .i64 X.2.2 := hI.get hd 21 116 rfl (by kernel_rfl)
        exact at_guard rfl rfl (j := 19) (k := 114) rfl (by omega) hg (bin_op rfl e1 e2 (fun w => by simp [go_sem]) ⟨_, rfl, rfl, hI.g, Rel.refl _ _⟩)
      rcases ix with _ | ix
      · obtain rfl := (Option.some.inj hi).symm
        have e1 : A.eval (.tmp 114) = .bool true := hI.get hd 19 114 rfl (by kernel_rfl)
        have e2 : A.eval (.tmp 117) = .bool true := hI.get hd 22 117 rfl (by kernel_rfl)
        exact at_op rfl rfl (pick_op rfl e1 ⟨_, rfl, e2, hI.g, Rel.refl _ _⟩)
      rcases ix with _ | ix
      · obtain rfl := (Option.some.inj hi).symm
        have e : A.eval (.tmp 118) = .bool true := hI.get hd 23 118 rfl (by kernel_rfl)
        exact at_op rfl rfl (move_op rfl ⟨_, rfl, e, hI.g, Rel.refl _ _⟩)
      rcases ix with _ | ix
      · obtain rfl := (Option.some.inj hi).symm
        have hg : A.tmps.getD 119 undef = .bool true := hI.get hd 24 119 rfl (by kernel_rfl)
        have e : A.eval (.tmp 19) = .pointer (some ⟨w8.heap.size, 0, none⟩) := hI.old 19 (by kernel_rfl)
        exact at_guard rfl rfl (j := 24) (k := 119) rfl (by omega) hg (wp_load_row _ _ rfl _ e _ _ _ _ (hI.g.rows.at 3 rfl).row und_sr rfl info_sr ⟨_, rfl, rfl, hI.g, Rel.refl _ _⟩)
      rcases ix with _ | ix
      · obtain rfl := (Option.some.inj hi).symm
        have hg : A.tmps.getD 119 undef = .bool true := hI.get hd 24 119 rfl (by kernel_rfl)
        have e : A.eval (.tmp 22) = .pointer (some ⟨w9.heap.size, 0, none⟩) := hI.old 22 (by kernel_rfl)
        exact at_guard rfl rfl (j := 24) (k := 119) rfl (by omega) hg (wp_load_row _ _ rfl _ e _ _ _ _ (hI.g.rows.at 2 rfl).row und_sr rfl info_sr ⟨_, rfl, rfl, hI.g, Rel.refl _ _⟩)
      rcases ix with _ | ix
      · obtain rfl := (Option.some.inj hi).symm
        have hg : A.tmps.getD 119 undef = .bool true := hI.get hd 24 119 rfl (by kernel_rfl)
        have e1 : A.eval (.tmp 120) = .agg #[.int .i64 F.1.d, .bool F.1.b, .bool F.1.l, .int .i64 F.1.n, .int .i64 F.1.x, .bool F.1.t] := hI.get hd 25 120 rfl (by kernel_rfl)
        have e2 : A.eval (.tmp 121) = .agg #[.int .i64 F.1.d, .bool F.1.b, .bool F.1.l, .int .i64 F.1.n, .int .i64 F.1.x, .bool F.1.t] := hI.get hd 26 121 rfl (by kernel_rfl)
        exact at_guard rfl rfl (j := 24) (k := 119) rfl (by omega) hg (bin_op rfl e1 e2 (fun w => by simp [go_sem]) ⟨_, rfl, rfl, hI.g, Rel.refl _ _⟩)
      rcases ix with _ | ix
      · obtain rfl := (Option.some.inj hi).symm
        have e1 : A.eval (.tmp 119) = .bool true := hI.get hd 24 119 rfl (by kernel_rfl)
        have e2 : A.eval (.tmp 122) = .bool true := hI.get hd 27 122 rfl (by kernel_rfl)
        exact at_op rfl rfl (pick_op rfl e1 ⟨_, rfl, e2, hI.g, Rel.refl _ _⟩)
      rcases ix with _ | ix
      · obtain rfl := (Option.some.inj hi).symm
        have e : A.eval (.tmp 123) = .bool true := hI.get hd 28 123 rfl (by kernel_rfl)
        exact at_op rfl rfl (move_op rfl ⟨_, rfl, e, hI.g, Rel.refl _ _⟩)
      rcases ix with _ | ix
      · obtain rfl := (Option.some.inj hi).symm
        have hg : A.tmps.getD 124 undef = .bool true := hI.get hd 29 124 rfl (by kernel_rfl)
        have e : A.eval (.tmp 20) = .int .i64 F.2.1 := hI.old 20 (by kernel_rfl)
        exact at_guard rfl rfl (j := 29) (k := 124) rfl (by omega) hg (move_op rfl ⟨_, rfl, e, hI.g, Rel.refl _ _⟩)
      rcases ix with _ | ix
      · obtain rfl := (Option.some.inj hi).symm
        have hg : A.tmps.getD 124 undef = .bool true := hI.get hd 29 124 rfl (by kernel_rfl)
        have e : A.eval (.tmp 23) = .int .i64 F.2.1 := hI.old 23 (by kernel_rfl)
        exact at_guard rfl rfl (j := 29) (k := 124) rfl (by omega) hg (move_op rfl ⟨_, rfl, e, hI.g, Rel.refl _ _⟩)
      rcases ix with _ | ix
      · obtain rfl := (Option.some.inj hi).symm
        have hg : A.tmps.getD 124 undef = .bool true := hI.get hd 29 124 rfl (by kernel_rfl)
        have e1 : A.eval (.tmp 125) = .int .i64 F.2.1 := hI.get hd 30 125 rfl (by kernel_rfl)
        have e2 : A.eval (.tmp 126) = .int .i64 F.2.1 := hI.get hd 31 126 rfl (by kernel_rfl)
        exact at_guard rfl rfl (j := 29) (k := 124) rfl (by omega) hg (bin_op rfl e1 e2 (fun w => by simp [go_sem]) ⟨_, rfl, rfl, hI.g, Rel.refl _ _⟩)
      rcases ix with _ | ix
      · obtain rfl := (Option.some.inj hi).symm
        have e1 : A.eval (.tmp 124) = .bool true := hI.get hd 29 124 rfl (by kernel_rfl)
        have e2 : A.eval (.tmp 127) = .bool true := hI.get hd 32 127 rfl (by kernel_rfl)
        exact at_op rfl rfl (pick_op rfl e1 ⟨_, rfl, e2, hI.g, Rel.refl _ _⟩)
      rcases ix with _ | ix
      · obtain rfl := (Option.some.inj hi).symm
        have e : A.eval (.tmp 128) = .bool true := hI.get hd 33 128 rfl (by kernel_rfl)
        exact at_op rfl rfl (move_op rfl ⟨_, rfl, e, hI.g, Rel.refl _ _⟩)
      rcases ix with _ | ix
      · obtain rfl := (Option.some.inj hi).symm
        have hg : A.tmps.getD 129 undef = .bool true := hI.get hd 34 129 rfl (by kernel_rfl)
        have e : A.eval (.tmp 21) = .bool F.2.2 := hI.old 21 (by kernel_rfl)
        exact at_guard rfl rfl (j := 34) (k := 129) rfl (by omega) hg (move_op rfl ⟨_, rfl, e, hI.g, Rel.refl _ _⟩)
      rcases ix with _ | ix
      · obtain rfl := (Option.some.inj hi).symm
        have hg : A.tmps.getD 129 undef = .bool true := hI.get hd 34 129 rfl (by kernel_rfl)
        have e : A.eval (.tmp 24) = .bool F.2.2 := hI.old 24 (by kernel_rfl)
        exact at_guard rfl rfl (j := 34) (k := 129) rfl (by omega) hg (move_op rfl ⟨_, rfl, e, hI.g, Rel.refl _ _⟩)
      rcases ix with _ | ix
      · obtain rfl := (Option.some.inj hi).symm
        have hg : A.tmps.getD 129 undef = .bool true := hI.get hd 34 129 rfl (by kernel_rfl)
        have e1 : A.eval (.tmp 130) = .bool F.2.2 := hI.get hd 35 130 rfl (by kernel_rfl)
        have e2 : A.eval (.tmp 131) = .bool F.2.2 := hI.get hd 36 131 rfl (by kernel_rfl)
        exact at_guard rfl rfl (j := 34) (k := 129) rfl (by omega) hg (bin_op rfl e1 e2 (fun w => by simp [go_sem]) ⟨_, rfl, rfl, hI.g, Rel.refl _ _⟩)
      rcases ix with _ | ix
      · obtain rfl := (Option.some.inj hi).symm
        have e1 : A.eval (.tmp 129) = .bool true := hI.get hd 34 129 rfl (by kernel_rfl)
        have e2 : A.eval (.tmp 132) = .bool true := hI.get hd 37 132 rfl (by kernel_rfl)
        exact at_op rfl rfl (pick_op rfl e1 ⟨_, rfl, e2, hI.g, Rel.refl _ _⟩)
      rcases ix with _ | ix
      · obtain rfl := (Option.some.inj hi).symm
        have e : A.eval (.tmp 133) = .bool true := hI.get hd 38 133 rfl (by kernel_rfl)
        exact at_op rfl rfl (move_op rfl ⟨_, rfl, e, hI.g, Rel.refl _ _⟩)
      rcases ix with _ | ix
      · obtain rfl := (Option.some.inj hi).symm
        have hg : A.tmps.getD 134 undef = .bool true := hI.get hd 39 134 rfl (by kernel_rfl)
        have e : A.eval (.tmp 25) = .pointer (some ⟨w10.heap.size, 0, none⟩) := hI.old 25 (by kernel_rfl)
        exact at_guard rfl rfl (j := 39) (k := 134) rfl (by omega) hg (wp_load_row _ _ rfl _ e _ _ _ _ (hI.g.rows.at 1 rfl).row und_sr rfl info_sr ⟨_, rfl, rfl, hI.g, Rel.refl _ _⟩)
      rcases ix with _ | ix
      · obtain rfl := (Option.some.inj hi).symm
        have hg : A.tmps.getD 134 undef = .bool true := hI.get hd 39 134 rfl (by kernel_rfl)
        have e : A.eval (.tmp 27) = .pointer (some ⟨w11.heap.size, 0, none⟩) := hI.old 27 (by kernel_rfl)
        exact at_guard rfl rfl (j := 39) (k := 134) rfl (by omega) hg (wp_load_row _ _ rfl _ e _ _ _ _ (hI.g.rows.at 0 rfl).row und_sr rfl info_sr ⟨_, rfl, rfl, hI.g, Rel.refl _ _⟩)
      rcases ix with _ | ix
      · obtain rfl := (Option.some.inj hi).symm
        have hg : A.tmps.getD 134 undef = .bool true := hI.get hd 39 134 rfl (by kernel_rfl)
        have e1 : A.eval (.tmp 135) = .agg #[.int .i64 Y.1.d, .bool Y.1.b, .bool Y.1.l, .int .i64 Y.1.n, .int .i64 Y.1.x, .bool Y.1.t] := hI.get hd 40 135 rfl (by kernel_rfl)
        have e2 : A.eval (.tmp 136) = .agg #[.int .i64 Y.1.d, .bool Y.1.b, .bool Y.1.l, .int .i64 Y.1.n, .int .i64 Y.1.x, .bool Y.1.t] := hI.get hd 41 136 rfl (by kernel_rfl)
        exact at_guard rfl rfl (j := 39) (k := 134) rfl (by omega) hg (bin_op rfl e1 e2 (fun w => by simp [go_sem]) ⟨_, rfl, rfl, hI.g, Rel.refl _ _⟩)
      rcases ix with _ | ix
      · obtain rfl := (Option.some.inj hi).symm
        have e1 : A.eval (.tmp 134) = .bool true := hI.get hd 39 134 rfl (by kernel_rfl)
        have e2 : A.eval (.tmp 137) = .bool true := hI.get hd 42 137 rfl (by kernel_rfl)
        exact at_op rfl rfl (pick_op rfl e1 ⟨_, rfl, e2, hI.g, Rel.refl _ _⟩)
      rcases ix with _ | ix
      · obtain rfl := (Option.some.inj hi).symm
        have e : A.eval (.tmp 138) = .bool true := hI.get hd 43 138 rfl (by kernel_rfl)
        exact at_op rfl rfl (move_op rfl ⟨_, rfl, e, hI.g, Rel.refl _ _⟩)
      rcases ix with _ | ix
      · obtain rfl := (Option.some.inj hi).symm
        have hg : A.tmps.getD 139 undef = .bool true := hI.get hd 44 139 rfl (by kernel_rfl)
        have e : A.eval (.tmp 26) = .bool Y.2 := hI.old 26 (by kernel_rfl)
        exact at_guard rfl rfl (j := 44) (k := 139) rfl (by omega) hg (move_op rfl ⟨_, rfl, e, hI.g, Rel.refl _ _⟩)
      rcases ix with _ | ix
      · obtain rfl := (Option.some.inj hi).symm
        have hg : A.tmps.getD 139 undef = .bool true := hI.get hd 44 139 rfl (by kernel_rfl)
        have e : A.eval (.tmp 28) = .bool Y.2 := hI.old 28 (by kernel_rfl)
        exact at_guard rfl rfl (j := 44) (k := 139) rfl (by omega) hg (move_op rfl ⟨_, rfl, e, hI.g, Rel.refl _ _⟩)
      rcases ix with _ | ix
      · obtain rfl := (Option.some.inj hi).symm
        have hg : A.tmps.getD 139 undef = .bool true := hI.get hd 44 139 rfl (by kernel_rfl)
        have e1 : A.eval (.tmp 140) = .bool Y.2 := hI.get hd 45 140 rfl (by kernel_rfl)
        have e2 : A.eval (.tmp 141) = .bool Y.2 := hI.get hd 46 141 rfl (by kernel_rfl)
        exact at_guard rfl rfl (j := 44) (k := 139) rfl (by omega) hg (bin_op rfl e1 e2 (fun w => by simp [go_sem]) ⟨_, rfl, rfl, hI.g, Rel.refl _ _⟩)
      rcases ix with _ | ix
      · obtain rfl := (Option.some.inj hi).symm
        have e1 : A.eval (.tmp 139) = .bool true := hI.get hd 44 139 rfl (by kernel_rfl)
        have e2 : A.eval (.tmp 142) = .bool true := hI.get hd 47 142 rfl (by kernel_rfl)
        exact at_op rfl rfl (pick_op rfl e1 ⟨_, rfl, e2, hI.g, Rel.refl _ _⟩)
      rcases ix with _ | ix
      · obtain rfl := (Option.some.inj hi).symm
        have e : A.eval (.tmp 143) = .bool true := hI.get hd 48 143 rfl (by kernel_rfl)
        exact at_op rfl rfl (move_op rfl ⟨_, rfl, e, hI.g, Rel.refl _ _⟩)
      rcases ix with _ | ix
      · obtain rfl := (Option.some.inj hi).symm
        have hg : A.tmps.getD 144 undef = .bool true := hI.get hd 49 144 rfl (by kernel_rfl)
        have e : A.eval (.tmp 6) = .pointer (some ⟨w3.heap.size, 0, none⟩) := hI.old 6 (by kernel_rfl)
        exact at_guard rfl rfl (j := 49) (k := 144) rfl (by omega) hg (wp_load_row _ _ rfl _ e _ _ _ _ (hI.g.rows.at 8 rfl).row und_sr rfl info_sr ⟨_, rfl, rfl, hI.g, Rel.refl _ _⟩)
      rcases ix with _ | ix
      · obtain rfl := (Option.some.inj hi).symm
        have hg : A.tmps.getD 144 undef = .bool true := hI.get hd 49 144 rfl (by kernel_rfl)
        have e0 : A.eval (.tmp 145) = .agg #[.int .i64 t.d, .bool t.b, .bool t.l, .int .i64 t.n, .int .i64 t.x, .bool t.t] := hI.get hd 50 145 rfl (by kernel_rfl)
        refine at_guard rfl rfl (j := 49) (k := 144) rfl (by omega) hg (call_op rfl Try.func17 (by kernel_rfl) (by kernel_rfl) ?_)
        simp only [List.map_cons, List.map_nil, e0]
        refine (serialOk_impl t W).mono ?_
        rintro e w12 ⟨rfl, hb⟩
        exact ⟨_, rfl, _, rfl, rfl, hI.g.below hb, Rel.below hb⟩
      rcases ix with _ | ix
      · obtain rfl := (Option.some.inj hi).symm
        have hg : A.tmps.getD 144 undef = .bool true := hI.get hd 49 144 rfl (by kernel_rfl)
        have e : A.eval (.tmp 6) = .pointer (some ⟨w3.heap.size, 0, none⟩) := hI.old 6 (by kernel_rfl)
        exact at_guard rfl rfl (j := 49) (k := 144) rfl (by omega) hg (wp_load_row _ _ rfl _ e _ _ _ _ (hI.g.rows.at 8 rfl).row und_sr rfl info_sr ⟨_, rfl, rfl, hI.g, Rel.refl _ _⟩)
      rcases ix with _ | ix
      · obtain rfl := (Option.some.inj hi).symm
        have hg : A.tmps.getD 144 undef = .bool true := hI.get hd 49 144 rfl (by kernel_rfl)
        have e0 : A.eval (.tmp 147) = .agg #[.int .i64 t.d, .bool t.b, .bool t.l, .int .i64 t.n, .int .i64 t.x, .bool t.t] := hI.get hd 52 147 rfl (by kernel_rfl)
        refine at_guard rfl rfl (j := 49) (k := 144) rfl (by omega) hg (call_op rfl Try.func26 (by kernel_rfl) (by kernel_rfl) ?_)
        simp only [List.map_cons, List.map_nil, e0]
        refine (serialOk_spec t W).mono ?_
        rintro e w12 ⟨rfl, hb⟩
        exact ⟨_, rfl, _, rfl, rfl, hI.g.below hb, Rel.below hb⟩
      rcases ix with _ | ix
      · obtain rfl := (Option.some.inj hi).symm
        have hg : A.tmps.getD 144 undef = .bool true := hI.get hd 49 144 rfl (by kernel_rfl)
        have e1 : A.eval (.tmp 146) = .bool t.ok := hI.get hd 51 146 rfl (by kernel_rfl)
        have e2 : A.eval (.tmp 148) = .bool t.ok := hI.get hd 53 148 rfl (by kernel_rfl)
        exact at_guard rfl rfl (j := 49) (k := 144) rfl (by omega) hg (bin_op rfl e1 e2 (fun w => by simp [go_sem]) ⟨_, rfl, rfl, hI.g, Rel.refl _ _⟩)
      rcases ix with _ | ix
      · obtain rfl := (Option.some.inj hi).symm
        have e1 : A.eval (.tmp 144) = .bool true := hI.get hd 49 144 rfl (by kernel_rfl)
        have e2 : A.eval (.tmp 149) = .bool true := hI.get hd 54 149 rfl (by kernel_rfl)
        exact at_op rfl rfl (pick_op rfl e1 ⟨_, rfl, e2, hI.g, Rel.refl _ _⟩)
      rcases ix with _ | ix
      · obtain rfl := (Option.some.inj hi).symm
        have e : A.eval (.tmp 150) = .bool true := hI.get hd 55 150 rfl (by kernel_rfl)
        exact at_op rfl rfl (assign_op rfl ⟨_, rfl, e, hI.g, Rel.refl _ _⟩)
      omega
    case done =>
      intro A W hI
      have e2 : A.tmps.getD 2 undef = .bool true := hI.slot 56 2 rfl rfl
      have hA := frame_lit A 151 hI.size
      have hg := hI.g
      have hde : A.defers = [] := hI.defers
      rw [hde, show List.range 151 = [0, 1, 2, 3, 4, 5, 6, 7, 8, 9, 10, 11, 12, 13, 14, 15, 16, 17, 18, 19, 20, 21, 22, 23, 24, 25, 26, 27, 28, 29, 30, 31, 32, 33, 34, 35, 36, 37, 38, 39, 40, 41, 42, 43, 44, 45, 46, 47, 48, 49, 50, 51, 52, 53, 54, 55, 56, 57, 58, 59, 60, 61, 62, 63, 64, 65, 66, 67, 68, 69, 70, 71, 72, 73, 74, 75, 76, 77, 78, 79, 80, 81, 82, 83, 84, 85, 86, 87, 88, 89, 90, 91, 92, 93, 94, 95, 96, 97, 98, 99, 100, 101, 102, 103, 104, 105, 106, 107, 108, 109, 110, 111, 112, 113, 114, 115, 116, 117, 118, 119, 120, 121, 122, 123, 124, 125, 126, 127, 128, 129, 130, 131, 132, 133, 134, 135, 136, 137, 138, 139, 140, 141, 142, 143, 144, 145, 146, 147, 148, 149, 150] from rfl] at hA
      simp only [List.map_cons, List.map_nil, e2] at hA
      rw [hA]
      clear hA e2 hI hde
      go_wp2
      go_ret
      exact ⟨rfl, hg.bel⟩
  · have hs : decide ((4096 : Int) < (len : Int)) = true := by simp; omega
    go_enter Try.func4, Try.ntmps4
    go_wp2_with (go_at_call 10; refine (big_any _ _ _ _).mono ?_; rintro e w1 ⟨rfl, rfl⟩; rw [hs])
    go_ret
    exact ⟨rfl, Below.refl _ _⟩
end Go.Proofs.Ytdcmjajipkpbnaa.Srl
