/-
  The port: what is sent, and a beat, as the document's model tells them.
-/
import Derived.Test.YtdcmjajipkpbnaaSrl2
namespace Go.Proofs.Ytdcmjajipkpbnaa.Srl
open Go.ChangeShapes Go.WideShapes Go.RowKit Base Num Slc Rw Reg Tmr
set_option linter.unusedVariables false

/-- Within the last statement: the port that came, the one that goes, the result's block. -/
structure Gs (w : World) (b2 b4 b7 : Nat) (s o : Sr) (W : World) : Prop where
  r2 : Row W b2 #[.int .i64 s.d, .bool s.b, .bool s.l, .int .i64 s.n, .int .i64 s.x, .bool s.t] 29
  r7 : Row W b7 #[.int .i64 o.d, .bool o.b, .bool o.l, .int .i64 o.n, .int .i64 o.x, .bool o.t] 29
  r4 : ∃ cs : Array Value, cs.size = 6 ∧ Row W b4 cs 29
  bel : Below w.heap.size w W
theorem Gs.drew {w W : World} {b2 b4 b7 : Nat} {s o : Sr} (h : Gs w b2 b4 b7 s o W) : Gs w b2 b4 b7 s o W.drew := ⟨h.r2.drewN 1, h.r7.drewN 1, h.r4.imp fun _ ⟨e, r⟩ => ⟨e, r.drewN 1⟩, h.bel.drew⟩
theorem row_set {W : World} {b : Nat} (cs : Array Value) : Onto b W (W.setRow b cs) := ⟨rfl, rfl, rfl, by simp, fun k hk _ => setRow_other W _ k _ hk⟩
theorem Gs.store {w W : World} {b2 b4 b7 : Nat} {s o : Sr} (h : Gs w b2 b4 b7 s o W) (h2 : b2 ≠ b4) (h7 : b7 ≠ b4) (hw : w.heap.size ≤ b4) (cs : Array Value) (hcs : cs.size = 6) : Gs w b2 b4 b7 s o (W.setRow b4 cs) := by
  obtain ⟨old, e, r⟩ := h.r4
  exact ⟨h.r2.onto (row_set cs) h2, h.r7.onto (row_set cs) h7, ⟨cs, hcs, Row.of (setRow_heap W _ _ _ _ _ r.row)⟩, below_onto h.bel (row_set cs) hw⟩
set_option maxHeartbeats 4000000 in
theorem serialSends_spec (s : Sr) (upto : Int) (w : World) :
    Calls Try.prog 22 #[s.val, .int .i64 upto] w fun e w' => e = .returned (.tuple #[(s.send upto).1.val, .int .i64 (s.send upto).2.1, .int .i64 (s.send upto).2.2]) ∧ Below w.heap.size w w' := by
  cases hok : s.ok
  · have e : s.send upto = (Sr.nul, -1, 0) := by simp [Sr.send, hok]
    rw [e, Sr.eta s]
    go_enter Try.func22, Try.ntmps22
    go_wp2_with (first
      | (go_at_call 26; refine (serialOk_spec s _).mono ?_; rintro e w1 ⟨rfl, hb⟩; rw [hok]; obtain ⟨r1, r2, hB⟩ := box2 hb; have c1 := r1.cell; have l1 := r1.lt; have l2 := r2.lt)
      | (refine st_sr rfl rfl rfl rfl r2 rfl ?_; intro w2 r3 ho2 hs2))
    refine ret_row_tmp2 rfl rfl r3 und_sr rfl info_sr rfl rfl rfl ?_
    exact ⟨rfl, below_onto hB ho2 (by omega)⟩
  obtain ⟨hd, hx⟩ := Sr.ok_true hok
  by_cases h0 : s.x = 0
  · have e : s.send upto = (s, -1, 0) := by simp [Sr.send, hok, h0]
    obtain ⟨d, b, l, n, x, t⟩ := s
    simp only at h0
    subst h0
    rw [e, Sr.eta]
    go_enter Try.func22, Try.ntmps22
    go_wp2_with (first
      | (go_at_call 26; refine (serialOk_spec ⟨d, b, l, n, 0, t⟩ _).mono ?_; rintro e w1 ⟨rfl, hb⟩; rw [hok]; obtain ⟨r1, r2, hB⟩ := box2 hb; have c1 := r1.cell; have l1 := r1.lt; have l2 := r2.lt)
      | (refine st_sr rfl rfl rfl rfl r2 rfl ?_; intro w2 r3 ho2 hs2))
    refine ret_row_tmp2 rfl rfl r3 und_sr rfl info_sr rfl rfl rfl ?_
    exact ⟨rfl, below_onto hB ho2 (by omega)⟩
  by_cases h1 : upto < s.x
  · have e : s.send upto = (s, -1, 0) := by simp [Sr.send, hok]; omega
    rw [e, Sr.eta s]
    go_enter Try.func22, Try.ntmps22
    go_wp2_with (first
      | (go_at_call 26; refine (serialOk_spec s _).mono ?_; rintro e w1 ⟨rfl, hb⟩; rw [hok]; obtain ⟨r1, r2, hB⟩ := box2 hb; have c1 := r1.cell; have l1 := r1.lt; have l2 := r2.lt)
      | (refine st_sr rfl rfl rfl rfl r2 rfl ?_; intro w2 r3 ho2 hs2))
    refine ret_row_tmp2 rfl rfl r3 und_sr rfl info_sr rfl rfl rfl ?_
    exact ⟨rfl, below_onto hB ho2 (by omega)⟩
  · have e : s.send upto = (⟨s.d, s.b, s.l, s.n, 0, true⟩, s.x, s.d / 128) := by
      have : 0 < s.x ∧ s.x ≤ upto := by omega
      simp [Sr.send, hok, this]
    rw [e, Sr.eta s]
    generalize ho : (⟨s.d, s.b, s.l, s.n, 0, true⟩ : Sr) = out
    have hq0 : (s.x == 0) = false := by simpa using h0
    have hq1 : decide (upto < s.x) = false := by simpa using h1
    go_enter Try.func22, Try.ntmps22
    go_wp2_with (go_at_call 26; refine (serialOk_spec s _).mono ?_; rintro e w1 ⟨rfl, hb⟩; rw [hok]; obtain ⟨r1, r2, hB⟩ := box2 hb; have c1 := r1.cell; have l1 := r1.lt; have l2 := r2.lt)
    have r7 : Row (w1.alloc (.cells #[.int .i64 s.d, .bool s.b, .bool s.l, .int .i64 s.n, .int .i64 0, .bool true] 29)) w1.heap.size #[.int .i64 out.d, .bool out.b, .bool out.l, .int .i64 out.n, .int .i64 out.x, .bool out.t] 29 := by subst ho; exact Row.new _ _ _
    have hG : Gs w w.heap.size (w.heap.size + 1) w1.heap.size s out (w1.alloc (.cells #[.int .i64 s.d, .bool s.b, .bool s.l, .int .i64 s.n, .int .i64 0, .bool true] 29)) := ⟨r1.alloc _, r7, ⟨_, rfl, r2.alloc _⟩, hB.alloc hB.size _⟩
    clear r1 r2 hB hb c1 r7
    have hd' := hd
    refine region_by_each (by kernel_rfl) (by kernel_rfl) (fun W => Gs w w.heap.size (w.heap.size + 1) w1.heap.size s out W)
      (kinds [KIs (.agg #[.int .i64 out.d, .bool out.b, .bool out.l, .int .i64 out.n, .int .i64 out.x, .bool out.t]), KIs (.pointer (some ⟨w.heap.size, 4, none⟩)), KIs (.int .i64 s.x), KIs (.pointer (some ⟨w.heap.size, 0, none⟩)), KIs (.int .i64 s.d), KIs (.int .i64 (s.d / 128)), KRow (w.heap.size + 1) #[.int .i64 out.d, .bool out.b, .bool out.l, .int .i64 out.n, .int .i64 out.x, .bool out.t] 29, KIs (.int .i64 s.x), KIs (.int .i64 (s.d / 128))])
      (steps 6 (fun k => k = w.heap.size + 1) (fun _ => False)) (by kernel_rfl) (kinds_steps ?hY ?hX) hG.drew ?step ?done
    case hY =>
      intro K hK
      simp only [List.mem_cons, List.not_mem_nil, or_false] at hK
      rcases hK with rfl | rfl | rfl | rfl | rfl | rfl | rfl | rfl | rfl
      all_goals first | exact bears_is _ _ | exact bears_any _ | exact bears_int _ | exact bears_row _ _ _ _ (by simp)
    case hX =>
      intro ix K hK hne
      rcases ix with _ | ix
      · obtain rfl := (Option.some.inj hK).symm; first | exact bears_is _ _ | exact bears_any _ | exact bears_int _
      rcases ix with _ | ix
      · obtain rfl := (Option.some.inj hK).symm; first | exact bears_is _ _ | exact bears_any _ | exact bears_int _
      rcases ix with _ | ix
      · obtain rfl := (Option.some.inj hK).symm; first | exact bears_is _ _ | exact bears_any _ | exact bears_int _
      rcases ix with _ | ix
      · obtain rfl := (Option.some.inj hK).symm; first | exact bears_is _ _ | exact bears_any _ | exact bears_int _
      rcases ix with _ | ix
      · obtain rfl := (Option.some.inj hK).symm; first | exact bears_is _ _ | exact bears_any _ | exact bears_int _
      rcases ix with _ | ix
      · obtain rfl := (Option.some.inj hK).symm; first | exact bears_is _ _ | exact bears_any _ | exact bears_int _
      rcases ix with _ | ix
      · exact absurd rfl hne
      rcases ix with _ | ix
      · obtain rfl := (Option.some.inj hK).symm; first | exact bears_is _ _ | exact bears_any _ | exact bears_int _
      rcases ix with _ | ix
      · obtain rfl := (Option.some.inj hK).symm; first | exact bears_is _ _ | exact bears_any _ | exact bears_int _
      simp at hK
    case step =>
      intro L ix o A W hi hI hL hd
      have hin : ix < 9 := by
        by_cases hl : ix < 9
        · exact hl
        · simp [hl] at hi
      have hsz : A.tmps.size = 31 := hI.size
      rcases ix with _ | ix
      · obtain rfl := (Option.some.inj hi).symm
        have e : A.eval (.tmp 7) = .pointer (some ⟨w1.heap.size, 0, none⟩) := hI.old 7 (by kernel_rfl)
        exact at_op rfl rfl (wp_load_row _ _ rfl _ e _ _ _ _ hI.g.r7.row und_sr rfl info_sr ⟨_, rfl, rfl, hI.g, steps_other (by decide) (Rel.refl _ _)⟩)
      rcases ix with _ | ix
      · obtain rfl := (Option.some.inj hi).symm
        have e : A.eval (.tmp 2) = .pointer (some ⟨w.heap.size, 0, none⟩) := hI.old 2 (by kernel_rfl)
        refine at_op rfl rfl (val_op (v := .pointer (some ⟨w.heap.size, 4, none⟩)) ?_ ⟨_, rfl, rfl, hI.g, steps_other (by decide) (Rel.refl _ _)⟩)
        unfold execOp
        simp only [List.getElem_toArray, List.getElem_cons_zero, List.getElem_cons_succ, e]
        simp [go_sem]
      rcases ix with _ | ix
      · obtain rfl := (Option.some.inj hi).symm
        have e : A.eval (.tmp 26) = .pointer (some ⟨w.heap.size, 4, none⟩) := hI.get hd 1 26 rfl (by kernel_rfl)
        exact at_op rfl rfl (load_op rfl Try.underlying2 e (show W.cell? ⟨w.heap.size, 4, none⟩ = some (.int .i64 s.x) from hI.g.r2.cell 4) ⟨_, rfl, rfl, hI.g, steps_other (by decide) (Rel.refl _ _)⟩)
      rcases ix with _ | ix
      · obtain rfl := (Option.some.inj hi).symm
        have e : A.eval (.tmp 2) = .pointer (some ⟨w.heap.size, 0, none⟩) := hI.old 2 (by kernel_rfl)
        refine at_op rfl rfl (val_op (v := .pointer (some ⟨w.heap.size, 0, none⟩)) ?_ ⟨_, rfl, rfl, hI.g, steps_other (by decide) (Rel.refl _ _)⟩)
        unfold execOp
        simp only [List.getElem_toArray, List.getElem_cons_zero, List.getElem_cons_succ, e]
        simp [go_sem]
      rcases ix with _ | ix
      · obtain rfl := (Option.some.inj hi).symm
        have e : A.eval (.tmp 28) = .pointer (some ⟨w.heap.size, 0, none⟩) := hI.get hd 3 28 rfl (by kernel_rfl)
        exact at_op rfl rfl (load_op rfl Try.underlying2 e (show W.cell? ⟨w.heap.size, 0, none⟩ = some (.int .i64 s.d) from hI.g.r2.cell 0) ⟨_, rfl, rfl, hI.g, steps_other (by decide) (Rel.refl _ _)⟩)
      rcases ix with _ | ix
      · obtain rfl := (Option.some.inj hi).symm
        have e0 : A.eval (.tmp 29) = .int .i64 s.d := hI.get hd 4 29 rfl (by kernel_rfl)
        refine at_op rfl rfl (call_op rfl Try.func46 (by kernel_rfl) (by kernel_rfl) ?_)
        simp only [List.map_cons, List.map_nil, e0]
        refine (top_any s.d W hd').mono ?_
        rintro e w5 ⟨rfl, rfl⟩
        exact ⟨_, rfl, _, rfl, rfl, hI.g, steps_other (by decide) (Rel.refl _ _)⟩
      rcases ix with _ | ix
      · obtain rfl := (Option.some.inj hi).symm
        have e1 : A.eval (.tmp 25) = .agg #[.int .i64 out.d, .bool out.b, .bool out.l, .int .i64 out.n, .int .i64 out.x, .bool out.t] := hI.get hd 0 25 rfl (by kernel_rfl)
        have e2 : A.eval (.tmp 4) = .pointer (some ⟨w.heap.size + 1, 0, none⟩) := hI.old 4 (by kernel_rfl)
        obtain ⟨oc, hrs, hr⟩ := hI.g.r4
        exact at_op rfl rfl (wp_store_row _ _ _ rfl _ _ e2 e1 _ _ hr.row info_sr hrs (by simp [Value.oneCell']) ⟨_, rfl, setRow_heap W _ _ _ _ _ hr.row, hI.g.store (by omega) (by omega) (by omega) _ rfl, steps_same (Rel.onto (row_set _) rfl)⟩)
      rcases ix with _ | ix
      · obtain rfl := (Option.some.inj hi).symm
        have e : A.eval (.tmp 27) = .int .i64 s.x := hI.get hd 2 27 rfl (by kernel_rfl)
        exact at_op rfl rfl (assign_op rfl ⟨_, rfl, e, hI.g, steps_other (by decide) (Rel.refl _ _)⟩)
      rcases ix with _ | ix
      · obtain rfl := (Option.some.inj hi).symm
        have e : A.eval (.tmp 30) = .int .i64 (s.d / 128) := hI.get hd 5 30 rfl (by kernel_rfl)
        exact at_op rfl rfl (assign_op rfl ⟨_, rfl, e, hI.g, steps_other (by decide) (Rel.refl _ _)⟩)
      omega
    case done =>
      intro A W hI
      have e4 : A.tmps.getD 4 undef = .pointer (some ⟨w.heap.size + 1, 0, none⟩) := hI.old 4 (by kernel_rfl)
      have e5 : A.tmps.getD 5 undef = .int .i64 s.x := hI.slot 7 5 rfl rfl
      have e6 : A.tmps.getD 6 undef = .int .i64 (s.d / 128) := hI.slot 8 6 rfl rfl
      obtain ⟨vv, hv⟩ := hI.eff 6 _ rfl rfl rfl
      have hrow : Row W (w.heap.size + 1) #[.int .i64 out.d, .bool out.b, .bool out.l, .int .i64 out.n, .int .i64 out.x, .bool out.t] 29 := Row.of hv
      have hA := frame_lit A 31 hI.size
      have hg := hI.g
      have hde : A.defers = [] := hI.defers
      rw [hde, show List.range 31 = [0, 1, 2, 3, 4, 5, 6, 7, 8, 9, 10, 11, 12, 13, 14, 15, 16, 17, 18, 19, 20, 21, 22, 23, 24, 25, 26, 27, 28, 29, 30] from rfl] at hA
      simp only [List.map_cons, List.map_nil, e4, e5, e6] at hA
      rw [hA]
      clear hA e4 e5 e6 hI hde
      go_wp2
      refine ret_row_tmp2 rfl rfl hrow und_sr rfl info_sr rfl rfl rfl ?_
      exact ⟨rfl, hg.bel⟩
end Go.Proofs.Ytdcmjajipkpbnaa.Srl
