/-
  The cable's port, as the program has it: what is sent, and a beat.
-/
import Derived.Test.YtdcmjajipkpbnaaSrlI3
namespace Go.Proofs.Ytdcmjajipkpbnaa.Srl
open Go.ChangeShapes Go.WideShapes Go.RowKit Base Num Slc Rw Reg Tmr
set_option linter.unusedVariables false

/-- Within the last statement: the port from inside, the result's block. -/
structure Gp (w : World) (b4 b7 : Nat) (o : Sr) (W : World) : Prop where
  r7 : Row W b7 #[.int .i64 o.d, .int .i64 o.n, .bool o.b, .bool o.l, .int .i64 o.x, .bool o.t] 57
  r4 : ∃ cs : Array Value, cs.size = 6 ∧ Row W b4 cs 29
  bel : Below w.heap.size w W
theorem Gp.drew {w W : World} {b4 b7 : Nat} {o : Sr} (h : Gp w b4 b7 o W) : Gp w b4 b7 o W.drew := ⟨h.r7.drewN 1, h.r4.imp fun _ ⟨e, r⟩ => ⟨e, r.drewN 1⟩, h.bel.drew⟩
theorem Gp.below {w W W' : World} {b4 b7 : Nat} {o : Sr} (h : Gp w b4 b7 o W) (hb : Below W.heap.size W W') : Gp w b4 b7 o W' := ⟨h.r7.below hb, h.r4.imp fun _ ⟨e, r⟩ => ⟨e, r.below hb⟩, below_more h.bel hb⟩
theorem Gp.store {w W : World} {b4 b7 : Nat} {o : Sr} (h : Gp w b4 b7 o W) (h7 : b7 ≠ b4) (hw : w.heap.size ≤ b4) (cs : Array Value) (hcs : cs.size = 6) : Gp w b4 b7 o (W.setRow b4 cs) := by
  obtain ⟨old, e, r⟩ := h.r4
  exact ⟨h.r7.onto (row_set cs) h7, ⟨cs, hcs, Row.of (setRow_heap W _ _ _ _ _ r.row)⟩, below_onto h.bel (row_set cs) hw⟩
def SendsSays (s : Sr) (upto : Int) (r : Sr × Int × Int) (w : World) : Prop :=
    Calls Try.prog 14 #[s.val, .int .i64 upto] w fun e w' => e = .returned (.tuple #[r.1.val, .int .i64 r.2.1, .int .i64 r.2.2]) ∧ Below w.heap.size w w'
set_option maxHeartbeats 2000000 in
theorem sends_wrong (s : Sr) (upto : Int) (w : World) (hok : s.ok = false) : SendsSays s upto (Sr.nul, -1, 0) w := by
  unfold SendsSays
  rw [Sr.eta]
  go_enter Try.func14, Try.ntmps14
  go_wp2_with (first
    | (go_at_call 17; refine (serialOk_impl s _).mono ?_; rintro e w1 ⟨rfl, hb⟩; rw [hok]; obtain ⟨r1, r2, hB⟩ := box2 hb; clear hb; have c1 := r1.cell)
    | (go_at_call 31; refine (portOf_impl s _).mono ?_; rintro e w3 ⟨rfl, hb3⟩; replace r1 := r1.below hb3; replace r2 := r2.below hb3; replace hB := below_more hB hb3; clear hb3; rw [Sr.eta_port])
    | (refine st_port rfl rfl rfl rfl (Row.new _ _ _) rfl ?_; intro w2 r4 ho2 hs2; replace r1 := (r1.alloc _).onto ho2 (Nat.ne_of_lt r1.lt); replace r2 := (r2.alloc _).onto ho2 (Nat.ne_of_lt r2.lt); replace hB := below_onto (hB.alloc hB.size _) ho2 hB.size; have c4 := r4.cell; have c1 := r1.cell; clear ho2 hs2)
    | (refine st_sr rfl rfl rfl rfl r2 rfl ?_; intro w2 r3 ho2 hs2))
  refine ret_row_tmp2 rfl rfl r3 und_sr rfl info_sr rfl rfl rfl ?_
  exact ⟨rfl, below_onto hB ho2 (by omega)⟩
set_option maxHeartbeats 2000000 in
theorem sends_none (d n : Int) (b l t : Bool) (upto : Int) (w : World) (hok : (Sr.mk d b l n 0 t).ok = true) : SendsSays ⟨d, b, l, n, 0, t⟩ upto (⟨d, b, l, n, 0, t⟩, -1, 0) w := by
  unfold SendsSays
  rw [Sr.eta]
  go_enter Try.func14, Try.ntmps14
  go_wp2_with (first
    | (go_at_call 17; refine (serialOk_impl ⟨d, b, l, n, 0, t⟩ _).mono ?_; rintro e w1 ⟨rfl, hb⟩; rw [hok]; obtain ⟨r1, r2, hB⟩ := box2 hb; clear hb; have c1 := r1.cell)
    | (go_at_call 31; refine (portOf_impl ⟨d, b, l, n, 0, t⟩ _).mono ?_; rintro e w3 ⟨rfl, hb3⟩; replace r1 := r1.below hb3; replace r2 := r2.below hb3; replace hB := below_more hB hb3; clear hb3; rw [Sr.eta_port])
    | (refine st_port rfl rfl rfl rfl (Row.new _ _ _) rfl ?_; intro w2 r4 ho2 hs2; replace r1 := (r1.alloc _).onto ho2 (Nat.ne_of_lt r1.lt); replace r2 := (r2.alloc _).onto ho2 (Nat.ne_of_lt r2.lt); replace hB := below_onto (hB.alloc hB.size _) ho2 hB.size; have c4 := r4.cell; have c1 := r1.cell; clear ho2 hs2)
    | (refine st_sr rfl rfl rfl rfl r2 rfl ?_; intro w2 r3 ho2 hs2))
  refine ret_row_tmp2 rfl rfl r3 und_sr rfl info_sr rfl rfl rfl ?_
  exact ⟨rfl, below_onto hB ho2 (by omega)⟩
set_option maxHeartbeats 2000000 in
theorem sends_later (s : Sr) (upto : Int) (w : World) (hok : s.ok = true) (h0 : (s.x == 0) = false) (h1 : upto < s.x) : SendsSays s upto (s, -1, 0) w := by
  unfold SendsSays
  rw [Sr.eta s]
  go_enter Try.func14, Try.ntmps14
  go_wp2_with (first
    | (go_at_call 17; refine (serialOk_impl s _).mono ?_; rintro e w1 ⟨rfl, hb⟩; rw [hok]; obtain ⟨r1, r2, hB⟩ := box2 hb; clear hb; have c1 := r1.cell)
    | (go_at_call 31; refine (portOf_impl s _).mono ?_; rintro e w3 ⟨rfl, hb3⟩; replace r1 := r1.below hb3; replace r2 := r2.below hb3; replace hB := below_more hB hb3; clear hb3; rw [Sr.eta_port])
    | (refine st_port rfl rfl rfl rfl (Row.new _ _ _) rfl ?_; intro w2 r4 ho2 hs2; replace r1 := (r1.alloc _).onto ho2 (Nat.ne_of_lt r1.lt); replace r2 := (r2.alloc _).onto ho2 (Nat.ne_of_lt r2.lt); replace hB := below_onto (hB.alloc hB.size _) ho2 hB.size; have c4 := r4.cell; have c1 := r1.cell; clear ho2 hs2)
    | (refine st_sr rfl rfl rfl rfl r2 rfl ?_; intro w2 r3 ho2 hs2))
  refine ret_row_tmp2 rfl rfl r3 und_sr rfl info_sr rfl rfl rfl ?_
  exact ⟨rfl, below_onto hB ho2 (by omega)⟩
set_option maxHeartbeats 2000000 in
theorem sends_now (s : Sr) (upto : Int) (w : World) (hok : s.ok = true) (hd : 0 ≤ s.d ∧ s.d ≤ 255) (h0 : (s.x == 0) = false) (h1 : ¬ upto < s.x) : SendsSays s upto (⟨s.d, s.b, s.l, s.n, 0, true⟩, s.x, s.d / 128) w := by
  unfold SendsSays
  rw [Sr.eta s]
  generalize ho : (⟨s.d, s.b, s.l, s.n, 0, true⟩ : Sr) = out
  have hod : 0 ≤ out.d ∧ out.d ≤ 255 := by subst ho; exact hd
  have hde : s.d / 128 = out.d / 128 := by subst ho; rfl
  show Calls Try.prog _ _ _ fun e w' => e = .returned (.tuple #[out.val, .int .i64 s.x, .int .i64 (s.d / 128)]) ∧ _
  rw [hde]
  generalize hb4 : w.heap.size + 1 = b4
  have h4 : w.heap.size ≤ b4 := by omega
  clear hde
  go_enter Try.func14, Try.ntmps14
  go_wp2_with (first
    | (go_at_call 17; refine (serialOk_impl s _).mono ?_; rintro e w1 ⟨rfl, hb⟩; rw [hok]; obtain ⟨r1, r2, hB⟩ := box2 hb; clear hb; have c1 := r1.cell)
    | (go_at_call 31; refine (portOf_impl s _).mono ?_; rintro e w3 ⟨rfl, hb3⟩; replace r1 := r1.below hb3; replace r2 := r2.below hb3; replace hB := below_more hB hb3; clear hb3; rw [Sr.eta_port])
    | (refine st_port rfl rfl rfl rfl (Row.new _ _ _) rfl ?_; intro w2 r4 ho2 hs2; have n5 : w.heap.size + 1 ≠ _ := Nat.ne_of_lt r2.lt; have hB0 := hB.size; replace r2 := (r2.alloc _).onto ho2 (Nat.ne_of_lt r2.lt); replace hB := below_onto (hB.alloc hB.size _) ho2 hB.size; have c4 := r4.cell; clear ho2 hs2)
    | (refine st_flag rfl rfl rfl rfl r4 info_bool rfl ?_; intro w6 r6 ho6 hs6; simp only [List.setIfInBounds_toArray, List.set_cons_succ, List.set_cons_zero] at r6; replace r2 := r2.onto ho6 n5; replace hB := below_onto hB ho6 hB0; clear ho6 hs6)
    | (refine st_int rfl rfl rfl rfl r6 info_i64 rfl ?_; intro w7 r7 ho7 hs7; simp only [List.setIfInBounds_toArray, List.set_cons_succ, List.set_cons_zero] at r7; replace r2 := r2.onto ho7 n5; replace hB := below_onto hB ho7 hB0; clear ho7 hs7))
  have r8 : Row w7 w3.heap.size #[.int .i64 out.d, .int .i64 out.n, .bool out.b, .bool out.l, .int .i64 out.x, .bool out.t] 57 := by subst ho; exact r7
  have h74 : w3.heap.size ≠ b4 := by omega
  have hG : Gp w b4 w3.heap.size out w7 := ⟨r8, ⟨_, rfl, hb4 ▸ r2⟩, hB⟩
  clear r1 r2 r4 r6 r7 r8 hB n5 hB0 hb4 h0 h1 hd hok ho
  generalize w3.heap.size = b7 at *
  refine region_by_each (by kernel_rfl) (by kernel_rfl) (fun W => Gp w b4 b7 out W)
    (kinds [KIs (.agg #[.int .i64 out.d, .int .i64 out.n, .bool out.b, .bool out.l, .int .i64 out.x, .bool out.t]), KIs (.agg #[.int .i64 out.d, .bool out.b, .bool out.l, .int .i64 out.n, .int .i64 out.x, .bool out.t]), KIs (.int .i64 s.x), KIs (.pointer (some ⟨b7, 0, none⟩)), KIs (.agg #[.int .i64 out.d, .int .i64 out.n]), KIs (.int .i64 (out.d / 128)), KRow b4 #[.int .i64 out.d, .bool out.b, .bool out.l, .int .i64 out.n, .int .i64 out.x, .bool out.t] 29, KIs (.int .i64 s.x), KIs (.int .i64 (out.d / 128))])
    (steps 6 (fun k => k = b4) (fun _ => False)) (by kernel_rfl) (kinds_steps ?hY ?hX) hG.drew ?step ?done
  case hY =>
    intro K hK
    simp only [List.mem_cons, List.not_mem_nil, or_false] at hK
    rcases hK with rfl | rfl | rfl | rfl | rfl | rfl | rfl | rfl | rfl
    all_goals first | exact bears_is _ _ | exact bears_any _ | exact bears_int _ | exact bears_row _ _ _ _ (by simp)
  case hX =>
    intro ix K hK hne
    rcases ix with _ | ix
    · obtain rfl := (Option.some.inj hK).symm; first | exact bears_is _ _ | exact bears_any _ | exact bears_int _
    rcases ix with _ | ix
    · obtain rfl := (Option.some.inj hK).symm; first | exact bears_is _ _ | exact bears_any _ | exact bears_int _
    rcases ix with _ | ix
    · obtain rfl := (Option.some.inj hK).symm; first | exact bears_is _ _ | exact bears_any _ | exact bears_int _
    rcases ix with _ | ix
    · obtain rfl := (Option.some.inj hK).symm; first | exact bears_is _ _ | exact bears_any _ | exact bears_int _
    rcases ix with _ | ix
    · obtain rfl := (Option.some.inj hK).symm; first | exact bears_is _ _ | exact bears_any _ | exact bears_int _
    rcases ix with _ | ix
    · obtain rfl := (Option.some.inj hK).symm; first | exact bears_is _ _ | exact bears_any _ | exact bears_int _
    rcases ix with _ | ix
    · exact absurd rfl hne
    rcases ix with _ | ix
    · obtain rfl := (Option.some.inj hK).symm; first | exact bears_is _ _ | exact bears_any _ | exact bears_int _
    rcases ix with _ | ix
    · obtain rfl := (Option.some.inj hK).symm; first | exact bears_is _ _ | exact bears_any _ | exact bears_int _
    simp at hK
  case step =>
    intro L ix o A W hi hI hL hd
    have hin : ix < 9 := by
      by_cases hl : ix < 9
      · exact hl
      · simp [hl] at hi
    have hsz : A.tmps.size = 35 := hI.size
    rcases ix with _ | ix
    · obtain rfl := (Option.some.inj hi).symm
      have e : A.eval (.tmp 7) = .pointer (some ⟨b7, 0, none⟩) := hI.old 7 (by kernel_rfl)
      exact at_op rfl rfl (wp_load_row _ _ rfl _ e _ _ _ _ hI.g.r7.row und_port rfl info_port ⟨_, rfl, rfl, hI.g, steps_other (by decide) (Rel.refl _ _)⟩)
    rcases ix with _ | ix
    · obtain rfl := (Option.some.inj hi).symm
      have e0 : A.eval (.tmp 29) = .agg #[.int .i64 out.d, .int .i64 out.n, .bool out.b, .bool out.l, .int .i64 out.x, .bool out.t] := hI.get hd 0 29 rfl (by kernel_rfl)
      refine at_op rfl rfl (call_op rfl Try.func30 (by kernel_rfl) (by kernel_rfl) ?_)
      simp only [List.map_cons, List.map_nil, e0]
      refine (serial_impl out W).mono ?_
      rintro e w5 ⟨rfl, hb5⟩
      exact ⟨_, rfl, _, rfl, rfl, hI.g.below hb5, steps_other (by decide) (Rel.below hb5)⟩
    rcases ix with _ | ix
    · obtain rfl := (Option.some.inj hi).symm
      have e : A.eval (.tmp 8) = .int .i64 s.x := hI.old 8 (by kernel_rfl)
      exact at_op rfl rfl (move_op rfl ⟨_, rfl, e, hI.g, steps_other (by decide) (Rel.refl _ _)⟩)
    rcases ix with _ | ix
    · obtain rfl := (Option.some.inj hi).symm
      have e : A.eval (.tmp 7) = .pointer (some ⟨b7, 0, none⟩) := hI.old 7 (by kernel_rfl)
      refine at_op rfl rfl (val_op (v := .pointer (some ⟨b7, 0, none⟩)) ?_ ⟨_, rfl, rfl, hI.g, steps_other (by decide) (Rel.refl _ _)⟩)
      unfold execOp
      simp only [List.getElem_toArray, List.getElem_cons_zero, List.getElem_cons_succ, e]
      simp [go_sem]
    rcases ix with _ | ix
    · obtain rfl := (Option.some.inj hi).symm
      have e : A.eval (.tmp 32) = .pointer (some ⟨b7, 0, none⟩) := hI.get hd 3 32 rfl (by kernel_rfl)
      exact at_op rfl rfl (lw_in (cs' := #[.int .i64 out.d, .int .i64 out.n]) rfl e hI.g.r7 und_shift rfl rfl info_shift ⟨_, rfl, rfl, hI.g, steps_other (by decide) (Rel.refl _ _)⟩)
    rcases ix with _ | ix
    · obtain rfl := (Option.some.inj hi).symm
      have e0 : A.eval (.tmp 33) = .agg #[.int .i64 out.d, .int .i64 out.n] := hI.get hd 4 33 rfl (by kernel_rfl)
      refine at_op rfl rfl (call_op rfl Try.func32 (by kernel_rfl) (by kernel_rfl) ?_)
      simp only [List.map_cons, List.map_nil, e0]
      refine (highBit_impl out.d out.n W hod).mono ?_
      rintro e w5 ⟨rfl, hb5⟩
      exact ⟨_, rfl, _, rfl, rfl, hI.g.below hb5, steps_other (by decide) (Rel.below hb5)⟩
    rcases ix with _ | ix
    · obtain rfl := (Option.some.inj hi).symm
      have e1 : A.eval (.tmp 30) = .agg #[.int .i64 out.d, .bool out.b, .bool out.l, .int .i64 out.n, .int .i64 out.x, .bool out.t] := hI.get hd 1 30 rfl (by kernel_rfl)
      have e2 : A.eval (.tmp 4) = .pointer (some ⟨b4, 0, none⟩) := hI.old 4 (by kernel_rfl)
      obtain ⟨oc, hrs, hr⟩ := hI.g.r4
      exact at_op rfl rfl (wp_store_row _ _ _ rfl _ _ e2 e1 _ _ hr.row info_sr hrs (by simp [Value.oneCell']) ⟨_, rfl, setRow_heap W _ _ _ _ _ hr.row, hI.g.store h74 h4 _ rfl, steps_same (Rel.onto (row_set _) rfl)⟩)
    rcases ix with _ | ix
    · obtain rfl := (Option.some.inj hi).symm
      have e : A.eval (.tmp 31) = .int .i64 s.x := hI.get hd 2 31 rfl (by kernel_rfl)
      exact at_op rfl rfl (assign_op rfl ⟨_, rfl, e, hI.g, steps_other (by decide) (Rel.refl _ _)⟩)
    rcases ix with _ | ix
    · obtain rfl := (Option.some.inj hi).symm
      have e : A.eval (.tmp 34) = .int .i64 (out.d / 128) := hI.get hd 5 34 rfl (by kernel_rfl)
      exact at_op rfl rfl (assign_op rfl ⟨_, rfl, e, hI.g, steps_other (by decide) (Rel.refl _ _)⟩)
    omega
  case done =>
    intro A W hI
    have e4 : A.tmps.getD 4 undef = .pointer (some ⟨b4, 0, none⟩) := hI.old 4 (by kernel_rfl)
    have e5 : A.tmps.getD 5 undef = .int .i64 s.x := hI.slot 7 5 rfl rfl
    have e6 : A.tmps.getD 6 undef = .int .i64 (out.d / 128) := hI.slot 8 6 rfl rfl
    have hI6 := hI.eff 6 _ rfl rfl rfl
    have hA := frame_lit A 35 hI.size
    have hg := hI.g
    have hde : A.defers = [] := hI.defers
    rw [hde, show List.range 35 = [0, 1, 2, 3, 4, 5, 6, 7, 8, 9, 10, 11, 12, 13, 14, 15, 16, 17, 18, 19, 20, 21, 22, 23, 24, 25, 26, 27, 28, 29, 30, 31, 32, 33, 34] from rfl] at hA
    simp only [List.map_cons, List.map_nil, e4, e5, e6] at hA
    rw [hA]
    clear hA e4 e5 e6 hI hde
    obtain ⟨vv, hv⟩ := hI6
    have hrow : Row W b4 #[.int .i64 out.d, .bool out.b, .bool out.l, .int .i64 out.n, .int .i64 out.x, .bool out.t] 29 := Row.of hv
    go_wp2
    refine ret_row_tmp2 rfl rfl hrow und_sr rfl info_sr rfl rfl rfl ?_
    exact ⟨rfl, hg.bel⟩
theorem serialSends_impl (s : Sr) (upto : Int) (w : World) :
    Calls Try.prog 14 #[s.val, .int .i64 upto] w fun e w' => e = .returned (.tuple #[(s.send upto).1.val, .int .i64 (s.send upto).2.1, .int .i64 (s.send upto).2.2]) ∧ Below w.heap.size w w' := by
  show SendsSays s upto (s.send upto) w
  cases hok : s.ok
  · rw [show s.send upto = (Sr.nul, -1, 0) by simp [Sr.send, hok]]
    exact sends_wrong s upto w hok
  obtain ⟨hd, hx⟩ := Sr.ok_true hok
  by_cases h0 : s.x = 0
  · rw [show s.send upto = (s, -1, 0) by simp [Sr.send, hok, h0]]
    obtain ⟨d, b, l, n, x, t⟩ := s
    simp only at h0
    subst h0
    exact sends_none d n b l t upto w hok
  by_cases h1 : upto < s.x
  · rw [show s.send upto = (s, -1, 0) by simp [Sr.send, hok]; omega]
    exact sends_later s upto w hok (by simpa using h0) h1
  · rw [show s.send upto = (⟨s.d, s.b, s.l, s.n, 0, true⟩, s.x, s.d / 128) by
      have : 0 < s.x ∧ s.x ≤ upto := by omega
      simp [Sr.send, hok, this]]
    exact sends_now s upto w hok hd (by simpa using h0) h1
end Go.Proofs.Ytdcmjajipkpbnaa.Srl
