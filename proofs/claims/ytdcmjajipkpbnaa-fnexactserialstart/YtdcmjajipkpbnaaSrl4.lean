/-
  The port: a beat comes, as the document's model tells it.
-/
import Derived.Test.YtdcmjajipkpbnaaSrl3
namespace Go.Proofs.Ytdcmjajipkpbnaa.Srl
open Go.ChangeShapes Go.WideShapes Go.RowKit Base Num Slc Rw Reg Tmr
set_option linter.unusedVariables false

set_option maxHeartbeats 4000000 in
theorem serialBeat_spec (s : Sr) (bit : Int) (w : World) :
    Calls Try.prog 23 #[s.val, .int .i64 bit] w fun e w' => e = .returned (.tuple #[(s.beat bit).1.val, .int .i64 (s.beat bit).2.1, .bool (s.beat bit).2.2]) ∧ Below w.heap.size w w' := by
  cases hok : s.ok
  · have e : s.beat bit = (Sr.nul, 0, false) := by simp [Sr.beat, hok]
    rw [e, Sr.eta s]
    go_enter Try.func23, Try.ntmps23
    go_wp2_with (first
      | (go_at_call 26; refine (serialOk_spec s _).mono ?_; rintro e w1 ⟨rfl, hb⟩; rw [hok]; obtain ⟨r1, r2, hB⟩ := box2 hb; have c1 := r1.cell; have l1 := r1.lt; have l2 := r2.lt)
      | (refine st_sr rfl rfl rfl rfl r2 rfl ?_; intro w2 r3 ho2 hs2))
    refine ret_row_tmp2 rfl rfl r3 und_sr rfl info_sr rfl rfl rfl ?_
    exact ⟨rfl, below_onto hB ho2 (by omega)⟩
  cases hbit : inn bit 0 1
  · have e : s.beat bit = (Sr.nul, 0, false) := by simp [Sr.beat, hbit]
    rw [e, Sr.eta s]
    go_enter Try.func23, Try.ntmps23
    go_wp2_with (first
      | (go_at_call 26; refine (serialOk_spec s _).mono ?_; rintro e w1 ⟨rfl, hb⟩; rw [hok]; obtain ⟨r1, r2, hB⟩ := box2 hb; have c1 := r1.cell; have l1 := r1.lt; have l2 := r2.lt)
      | (go_at_call 47; refine (in_any _ _ _ _).mono ?_; rintro e w1 ⟨rfl, rfl⟩; rw [hbit])
      | (refine st_sr rfl rfl rfl rfl r2 rfl ?_; intro w2 r3 ho2 hs2))
    refine ret_row_tmp2 rfl rfl r3 und_sr rfl info_sr rfl rfl rfl ?_
    exact ⟨rfl, below_onto hB ho2 (by omega)⟩
  have hb' := inn_true hbit
  obtain ⟨hd, hx⟩ := Sr.ok_true hok
  have hbn := Sr.ok_busy hok
  obtain ⟨d, b, l, n, x, t⟩ := s
  simp only at hd hx hbn
  cases b
  · have e : (Sr.mk d false l n x t).beat bit = (⟨d, false, l, n, x, t⟩, 1, false) := by simp [Sr.beat, hok, hbit]
    rw [e, Sr.eta]
    go_enter Try.func23, Try.ntmps23
    go_wp2_with (first
      | (go_at_call 26; refine (serialOk_spec ⟨d, false, l, n, x, t⟩ _).mono ?_; rintro e w1 ⟨rfl, hb⟩; rw [hok]; obtain ⟨r1, r2, hB⟩ := box2 hb; have c1 := r1.cell; have l1 := r1.lt; have l2 := r2.lt)
      | (go_at_call 47; refine (in_any _ _ _ _).mono ?_; rintro e w1 ⟨rfl, rfl⟩; rw [hbit])
      | (refine st_sr rfl rfl rfl rfl r2 rfl ?_; intro w2 r3 ho2 hs2))
    refine ret_row_tmp2 rfl rfl r3 und_sr rfl info_sr rfl rfl rfl ?_
    exact ⟨rfl, below_onto hB ho2 (by omega)⟩
  by_cases hlt : l = true
  · subst hlt
    have e : (Sr.mk d true true n x t).beat bit = (⟨d, true, true, n, x, t⟩, 1, false) := by simp [Sr.beat, hok, hbit]
    rw [e, Sr.eta]
    go_enter Try.func23, Try.ntmps23
    go_wp2_with (first
      | (go_at_call 26; refine (serialOk_spec ⟨d, true, true, n, x, t⟩ _).mono ?_; rintro e w1 ⟨rfl, hb⟩; rw [hok]; obtain ⟨r1, r2, hB⟩ := box2 hb; have c1 := r1.cell; have l1 := r1.lt; have l2 := r2.lt)
      | (go_at_call 47; refine (in_any _ _ _ _).mono ?_; rintro e w1 ⟨rfl, rfl⟩; rw [hbit])
      | (refine st_sr rfl rfl rfl rfl r2 rfl ?_; intro w2 r3 ho2 hs2))
    refine ret_row_tmp2 rfl rfl r3 und_sr rfl info_sr rfl rfl rfl ?_
    exact ⟨rfl, below_onto hB ho2 (by omega)⟩
  obtain rfl : l = false := by simpa using hlt
  have hn := hbn rfl
  clear hbn
  have hsh : (Sr.mk d true false n x t).shift bit = ⟨2 * d % 256 + bit, true, false, n - 1, x, t⟩ := rfl
  by_cases h1 : n = 1
  · subst h1
    have e : (Sr.mk d true false 1 x t).beat bit = (⟨2 * d % 256 + bit, false, false, 0, x, t⟩, d / 128, true) := by simp [Sr.beat, hok, hbit]
    rw [e, Sr.eta]
    generalize ho : (⟨2 * d % 256 + bit, false, false, 0, x, t⟩ : Sr) = out
    have HO : Hid ((⟨2 * d % 256 + bit, false, false, 0, x, t⟩ : Sr) = out) := ho
    clear ho
    go_enter Try.func23, Try.ntmps23
    go_wp2_with (first
      | (go_at_call 26; refine (serialOk_spec ⟨d, true, false, 1, x, t⟩ _).mono ?_; rintro e w1 ⟨rfl, hb⟩; rw [hok]; obtain ⟨r1, r2, hB⟩ := box2 hb; have c1 := r1.cell; have l1 := r1.lt; have l2 := r2.lt)
      | (go_at_call 47; refine (in_any _ _ _ _).mono ?_; rintro e w1 ⟨rfl, rfl⟩; rw [hbit])
      | (go_at_call 48; refine (shift_any ⟨d, true, false, 1, x, t⟩ _ _ hd hb' (by simp)).mono ?_; rw [hsh]; rintro e w3 ⟨rfl, hb3⟩; replace r1 := r1.below hb3; replace r2 := r2.below hb3; replace hB := hB.trans (hb3.mono hB.size); have l3 := r1.lt; have l4 := r2.lt; rw [Sr.eta]))
    have ho := HO.out
    obtain ⟨s, hs⟩ : ∃ s : Sr, (⟨d, true, false, 1, x, t⟩ : Sr) = s := ⟨_, rfl⟩
    have r7 : Row (w3.alloc (.cells #[.int .i64 (2 * d % 256 + bit), .bool false, .bool false, .int .i64 (0), .int .i64 x, .bool t] 29)) w3.heap.size #[.int .i64 out.d, .bool out.b, .bool out.l, .int .i64 out.n, .int .i64 out.x, .bool out.t] 29 := by subst ho; exact Row.new _ _ _
    have r1' : Row w3 w.heap.size #[.int .i64 s.d, .bool s.b, .bool s.l, .int .i64 s.n, .int .i64 s.x, .bool s.t] 29 := by subst hs; exact r1
    have hG : Gs w w.heap.size (w.heap.size + 1) w3.heap.size s out (w3.alloc (.cells #[.int .i64 (2 * d % 256 + bit), .bool false, .bool false, .int .i64 (0), .int .i64 x, .bool t] 29)) := ⟨r1'.alloc _, r7, ⟨_, rfl, r2.alloc _⟩, hB.alloc hB.size _⟩
    have hsd : s.d = d := by subst hs; rfl
    have hon : out.n = 0 := by subst ho; rfl
    clear r1 r1' r2 hB hb c1 r7
    refine region_by_each (by kernel_rfl) (by kernel_rfl) (fun W => Gs w w.heap.size (w.heap.size + 1) w3.heap.size s out W)
      (kinds [KIs (.agg #[.int .i64 out.d, .bool out.b, .bool out.l, .int .i64 out.n, .int .i64 out.x, .bool out.t]), KIs (.pointer (some ⟨w.heap.size, 0, none⟩)), KIs (.int .i64 s.d), KIs (.int .i64 (s.d / 128)), KIs (.pointer (some ⟨w3.heap.size, 3, none⟩)), KIs (.int .i64 out.n), KIs (.bool true), KRow (w.heap.size + 1) #[.int .i64 out.d, .bool out.b, .bool out.l, .int .i64 out.n, .int .i64 out.x, .bool out.t] 29, KIs (.int .i64 (s.d / 128)), KIs (.bool true)])
      (steps 7 (fun k => k = w.heap.size + 1) (fun _ => False)) (by kernel_rfl) (kinds_steps ?hY ?hX) hG.drew ?step ?done
    case hY =>
      intro K hK
      simp only [List.mem_cons, List.not_mem_nil, or_false] at hK
      rcases hK with rfl | rfl | rfl | rfl | rfl | rfl | rfl | rfl | rfl | rfl
      all_goals first | exact bears_is _ _ | exact bears_any _ | exact bears_int _ | exact bears_row _ _ _ _ (by simp)
    case hX =>
      intro ix K hK hne
      rcases ix with _ | ix
      · obtain rfl := (Option.some.inj hK).symm; first | exact bears_is _ _ | exact bears_any _ | exact bears_int _
      rcases ix with _ | ix
      · obtain rfl := (Option.some.inj hK).symm; first | exact bears_is _ _ | exact bears_any _ | exact bears_int _
      rcases ix with _ | ix
      · obtain rfl := (Option.some.inj hK).symm; first | exact bears_is _ _ | exact bears_any _ | exact bears_int _
      rcases ix with _ | ix
      · obtain rfl := (Option.some.inj hK).symm; first | exact bears_is _ _ | exact bears_any _ | exact bears_int _
      rcases ix with _ | ix
      · obtain rfl := (Option.some.inj hK).symm; first | exact bears_is _ _ | exact bears_any _ | exact bears_int _
      rcases ix with _ | ix
      · obtain rfl := (Option.some.inj hK).symm; first | exact bears_is _ _ | exact bears_any _ | exact bears_int _
      rcases ix with _ | ix
      · obtain rfl := (Option.some.inj hK).symm; first | exact bears_is _ _ | exact bears_any _ | exact bears_int _
      rcases ix with _ | ix
      · exact absurd rfl hne
      rcases ix with _ | ix
      · obtain rfl := (Option.some.inj hK).symm; first | exact bears_is _ _ | exact bears_any _ | exact bears_int _
      rcases ix with _ | ix
      · obtain rfl := (Option.some.inj hK).symm; first | exact bears_is _ _ | exact bears_any _ | exact bears_int _
      simp at hK
    case step =>
      intro L ix o A W hi hI hL hd
      have hin : ix < 10 := by
        by_cases hl : ix < 10
        · exact hl
        · simp [hl] at hi
      have hsz : A.tmps.size = 39 := hI.size
      rcases ix with _ | ix
      · obtain rfl := (Option.some.inj hi).symm
        have e : A.eval (.tmp 7) = .pointer (some ⟨w3.heap.size, 0, none⟩) := hI.old 7 (by kernel_rfl)
        exact at_op rfl rfl (wp_load_row _ _ rfl _ e _ _ _ _ hI.g.r7.row und_sr rfl info_sr ⟨_, rfl, rfl, hI.g, steps_other (by decide) (Rel.refl _ _)⟩)
      rcases ix with _ | ix
      · obtain rfl := (Option.some.inj hi).symm
        have e : A.eval (.tmp 2) = .pointer (some ⟨w.heap.size, 0, none⟩) := hI.old 2 (by kernel_rfl)
        refine at_op rfl rfl (val_op (v := .pointer (some ⟨w.heap.size, 0, none⟩)) ?_ ⟨_, rfl, rfl, hI.g, steps_other (by decide) (Rel.refl _ _)⟩)
        unfold execOp
        simp only [List.getElem_toArray, List.getElem_cons_zero, List.getElem_cons_succ, e]
        simp [go_sem]
      rcases ix with _ | ix
      · obtain rfl := (Option.some.inj hi).symm
        have e : A.eval (.tmp 33) = .pointer (some ⟨w.heap.size, 0, none⟩) := hI.get hd 1 33 rfl (by kernel_rfl)
        exact at_op rfl rfl (load_op rfl Try.underlying2 e (show W.cell? ⟨w.heap.size, 0, none⟩ = some (.int .i64 s.d) from hI.g.r2.cell 0) ⟨_, rfl, rfl, hI.g, steps_other (by decide) (Rel.refl _ _)⟩)
      rcases ix with _ | ix
      · obtain rfl := (Option.some.inj hi).symm
        have e0 : A.eval (.tmp 34) = .int .i64 s.d := hI.get hd 2 34 rfl (by kernel_rfl)
        refine at_op rfl rfl (call_op rfl Try.func46 (by kernel_rfl) (by kernel_rfl) ?_)
        simp only [List.map_cons, List.map_nil, e0]
        refine (top_any s.d W (by omega)).mono ?_
        rintro e w5 ⟨rfl, rfl⟩
        exact ⟨_, rfl, _, rfl, rfl, hI.g, steps_other (by decide) (Rel.refl _ _)⟩
      rcases ix with _ | ix
      · obtain rfl := (Option.some.inj hi).symm
        have e : A.eval (.tmp 7) = .pointer (some ⟨w3.heap.size, 0, none⟩) := hI.old 7 (by kernel_rfl)
        refine at_op rfl rfl (val_op (v := .pointer (some ⟨w3.heap.size, 3, none⟩)) ?_ ⟨_, rfl, rfl, hI.g, steps_other (by decide) (Rel.refl _ _)⟩)
        unfold execOp
        simp only [List.getElem_toArray, List.getElem_cons_zero, List.getElem_cons_succ, e]
        simp [go_sem]
      rcases ix with _ | ix
      · obtain rfl := (Option.some.inj hi).symm
        have e : A.eval (.tmp 36) = .pointer (some ⟨w3.heap.size, 3, none⟩) := hI.get hd 4 36 rfl (by kernel_rfl)
        exact at_op rfl rfl (load_op rfl Try.underlying2 e (show W.cell? ⟨w3.heap.size, 3, none⟩ = some (.int .i64 out.n) from hI.g.r7.cell 3) ⟨_, rfl, rfl, hI.g, steps_other (by decide) (Rel.refl _ _)⟩)
      rcases ix with _ | ix
      · obtain rfl := (Option.some.inj hi).symm
        have e1 : A.eval (.tmp 37) = .int .i64 out.n := hI.get hd 5 37 rfl (by kernel_rfl)
        exact at_op rfl rfl (bin_op (vy := .int .i64 0) rfl e1 rfl (fun w => by rw [hon]; simp [go_sem]) ⟨_, rfl, rfl, hI.g, steps_other (by decide) (Rel.refl _ _)⟩)
      rcases ix with _ | ix
      · obtain rfl := (Option.some.inj hi).symm
        have e1 : A.eval (.tmp 32) = .agg #[.int .i64 out.d, .bool out.b, .bool out.l, .int .i64 out.n, .int .i64 out.x, .bool out.t] := hI.get hd 0 32 rfl (by kernel_rfl)
        have e2 : A.eval (.tmp 4) = .pointer (some ⟨w.heap.size + 1, 0, none⟩) := hI.old 4 (by kernel_rfl)
        obtain ⟨oc, hrs, hr⟩ := hI.g.r4
        exact at_op rfl rfl (wp_store_row _ _ _ rfl _ _ e2 e1 _ _ hr.row info_sr hrs (by simp [Value.oneCell']) ⟨_, rfl, setRow_heap W _ _ _ _ _ hr.row, hI.g.store (by omega) (by omega) (by omega) _ rfl, steps_same (Rel.onto (row_set _) rfl)⟩)
      rcases ix with _ | ix
      · obtain rfl := (Option.some.inj hi).symm
        have e : A.eval (.tmp 35) = .int .i64 (s.d / 128) := hI.get hd 3 35 rfl (by kernel_rfl)
        exact at_op rfl rfl (assign_op rfl ⟨_, rfl, e, hI.g, steps_other (by decide) (Rel.refl _ _)⟩)
      rcases ix with _ | ix
      · obtain rfl := (Option.some.inj hi).symm
        have e : A.eval (.tmp 38) = .bool true := hI.get hd 6 38 rfl (by kernel_rfl)
        exact at_op rfl rfl (assign_op rfl ⟨_, rfl, e, hI.g, steps_other (by decide) (Rel.refl _ _)⟩)
      omega
    case done =>
      intro A W hI
      have e4 : A.tmps.getD 4 undef = .pointer (some ⟨w.heap.size + 1, 0, none⟩) := hI.old 4 (by kernel_rfl)
      have e5 : A.tmps.getD 5 undef = .int .i64 (s.d / 128) := hI.slot 8 5 rfl rfl
      have e6 : A.tmps.getD 6 undef = .bool true := hI.slot 9 6 rfl rfl
      obtain ⟨vv, hv⟩ := hI.eff 7 _ rfl rfl rfl
      have hrow : Row W (w.heap.size + 1) #[.int .i64 out.d, .bool out.b, .bool out.l, .int .i64 out.n, .int .i64 out.x, .bool out.t] 29 := Row.of hv
      have hA := frame_lit A 39 hI.size
      have hg := hI.g
      have hde : A.defers = [] := hI.defers
      rw [hde, show List.range 39 = [0, 1, 2, 3, 4, 5, 6, 7, 8, 9, 10, 11, 12, 13, 14, 15, 16, 17, 18, 19, 20, 21, 22, 23, 24, 25, 26, 27, 28, 29, 30, 31, 32, 33, 34, 35, 36, 37, 38] from rfl] at hA
      simp only [List.map_cons, List.map_nil, e4, e5, e6] at hA
      rw [hA]
      clear hA e4 e5 e6 hI hde
      go_wp2
      refine ret_row_tmp2 rfl rfl hrow und_sr rfl info_sr rfl rfl rfl ?_
      exact ⟨by rw [hsd]; rfl, hg.bel⟩
  · have e : (Sr.mk d true false n x t).beat bit = (⟨2 * d % 256 + bit, true, false, n - 1, x, t⟩, d / 128, false) := by simp [Sr.beat, hok, hbit, h1]
    rw [e, Sr.eta]
    have h0 : ¬ n - 1 = 0 := by omega
    generalize ho : (⟨2 * d % 256 + bit, true, false, n - 1, x, t⟩ : Sr) = out
    have HO : Hid ((⟨2 * d % 256 + bit, true, false, n - 1, x, t⟩ : Sr) = out) := ho
    clear ho
    go_enter Try.func23, Try.ntmps23
    go_wp2_with (first
      | (go_at_call 26; refine (serialOk_spec ⟨d, true, false, n, x, t⟩ _).mono ?_; rintro e w1 ⟨rfl, hb⟩; rw [hok]; obtain ⟨r1, r2, hB⟩ := box2 hb; have c1 := r1.cell; have l1 := r1.lt; have l2 := r2.lt)
      | (go_at_call 47; refine (in_any _ _ _ _).mono ?_; rintro e w1 ⟨rfl, rfl⟩; rw [hbit])
      | (go_at_call 48; refine (shift_any ⟨d, true, false, n, x, t⟩ _ _ hd hb' (by simp; omega)).mono ?_; rw [hsh]; rintro e w3 ⟨rfl, hb3⟩; replace r1 := r1.below hb3; replace r2 := r2.below hb3; replace hB := hB.trans (hb3.mono hB.size); have l3 := r1.lt; have l4 := r2.lt; rw [Sr.eta]))
    have ho := HO.out
    obtain ⟨s, hs⟩ : ∃ s : Sr, (⟨d, true, false, n, x, t⟩ : Sr) = s := ⟨_, rfl⟩
    have r7 : Row (w3.alloc (.cells #[.int .i64 (2 * d % 256 + bit), .bool true, .bool false, .int .i64 (n - 1), .int .i64 x, .bool t] 29)) w3.heap.size #[.int .i64 out.d, .bool out.b, .bool out.l, .int .i64 out.n, .int .i64 out.x, .bool out.t] 29 := by subst ho; exact Row.new _ _ _
    have r1' : Row w3 w.heap.size #[.int .i64 s.d, .bool s.b, .bool s.l, .int .i64 s.n, .int .i64 s.x, .bool s.t] 29 := by subst hs; exact r1
    have hG : Gs w w.heap.size (w.heap.size + 1) w3.heap.size s out (w3.alloc (.cells #[.int .i64 (2 * d % 256 + bit), .bool true, .bool false, .int .i64 (n - 1), .int .i64 x, .bool t] 29)) := ⟨r1'.alloc _, r7, ⟨_, rfl, r2.alloc _⟩, hB.alloc hB.size _⟩
    have hsd : s.d = d := by subst hs; rfl
    have hon : out.n = n - 1 := by subst ho; rfl
    clear r1 r1' r2 hB hb c1 r7
    refine region_by_each (by kernel_rfl) (by kernel_rfl) (fun W => Gs w w.heap.size (w.heap.size + 1) w3.heap.size s out W)
      (kinds [KIs (.agg #[.int .i64 out.d, .bool out.b, .bool out.l, .int .i64 out.n, .int .i64 out.x, .bool out.t]), KIs (.pointer (some ⟨w.heap.size, 0, none⟩)), KIs (.int .i64 s.d), KIs (.int .i64 (s.d / 128)), KIs (.pointer (some ⟨w3.heap.size, 3, none⟩)), KIs (.int .i64 out.n), KIs (.bool false), KRow (w.heap.size + 1) #[.int .i64 out.d, .bool out.b, .bool out.l, .int .i64 out.n, .int .i64 out.x, .bool out.t] 29, KIs (.int .i64 (s.d / 128)), KIs (.bool false)])
      (steps 7 (fun k => k = w.heap.size + 1) (fun _ => False)) (by kernel_rfl) (kinds_steps ?hY ?hX) hG.drew ?step ?done
    case hY =>
      intro K hK
      simp only [List.mem_cons, List.not_mem_nil, or_false] at hK
      rcases hK with rfl | rfl | rfl | rfl | rfl | rfl | rfl | rfl | rfl | rfl
      all_goals first | exact bears_is _ _ | exact bears_any _ | exact bears_int _ | exact bears_row _ _ _ _ (by simp)
    case hX =>
      intro ix K hK hne
      rcases ix with _ | ix
      · obtain rfl := (Option.some.inj hK).symm; first | exact bears_is _ _ | exact bears_any _ | exact bears_int _
      rcases ix with _ | ix
      · obtain rfl := (Option.some.inj hK).symm; first | exact bears_is _ _ | exact bears_any _ | exact bears_int _
      rcases ix with _ | ix
      · obtain rfl := (Option.some.inj hK).symm; first | exact bears_is _ _ | exact bears_any _ | exact bears_int _
      rcases ix with _ | ix
      · obtain rfl := (Option.some.inj hK).symm; first | exact bears_is _ _ | exact bears_any _ | exact bears_int _
      rcases ix with _ | ix
      · obtain rfl := (Option.some.inj hK).symm; first | exact bears_is _ _ | exact bears_any _ | exact bears_int _
      rcases ix with _ | ix
      · obtain rfl := (Option.some.inj hK).symm; first | exact bears_is _ _ | exact bears_any _ | exact bears_int _
      rcases ix with _ | ix
      · obtain rfl := (Option.some.inj hK).symm; first | exact bears_is _ _ | exact bears_any _ | exact bears_int _
      rcases ix with _ | ix
      · exact absurd rfl hne
      rcases ix with _ | ix
      · obtain rfl := (Option.some.inj hK).symm; first | exact bears_is _ _ | exact bears_any _ | exact bears_int _
      rcases ix with _ | ix
      · obtain rfl := (Option.some.inj hK).symm; first | exact bears_is _ _ | exact bears_any _ | exact bears_int _
      simp at hK
    case step =>
      intro L ix o A W hi hI hL hd
      have hin : ix < 10 := by
        by_cases hl : ix < 10
        · exact hl
        · simp [hl] at hi
      have hsz : A.tmps.size = 39 := hI.size
      rcases ix with _ | ix
      · obtain rfl := (Option.some.inj hi).symm
        have e : A.eval (.tmp 7) = .pointer (some ⟨w3.heap.size, 0, none⟩) := hI.old 7 (by kernel_rfl)
        exact at_op rfl rfl (wp_load_row _ _ rfl _ e _ _ _ _ hI.g.r7.row und_sr rfl info_sr ⟨_, rfl, rfl, hI.g, steps_other (by decide) (Rel.refl _ _)⟩)
      rcases ix with _ | ix
      · obtain rfl := (Option.some.inj hi).symm
        have e : A.eval (.tmp 2) = .pointer (some ⟨w.heap.size, 0, none⟩) := hI.old 2 (by kernel_rfl)
        refine at_op rfl rfl (val_op (v := .pointer (some ⟨w.heap.size, 0, none⟩)) ?_ ⟨_, rfl, rfl, hI.g, steps_other (by decide) (Rel.refl _ _)⟩)
        unfold execOp
        simp only [List.getElem_toArray, List.getElem_cons_zero, List.getElem_cons_succ, e]
        simp [go_sem]
      rcases ix with _ | ix
      · obtain rfl := (Option.some.inj hi).symm
        have e : A.eval (.tmp 33) = .pointer (some ⟨w.heap.size, 0, none⟩) := hI.get hd 1 33 rfl (by kernel_rfl)
        exact at_op rfl rfl (load_op rfl Try.underlying2 e (show W.cell? ⟨w.heap.size, 0, none⟩ = some (.int .i64 s.d) from hI.g.r2.cell 0) ⟨_, rfl, rfl, hI.g, steps_other (by decide) (Rel.refl _ _)⟩)
      rcases ix with _ | ix
      · obtain rfl := (Option.some.inj hi).symm
        have e0 : A.eval (.tmp 34) = .int .i64 s.d := hI.get hd 2 34 rfl (by kernel_rfl)
        refine at_op rfl rfl (call_op rfl Try.func46 (by kernel_rfl) (by kernel_rfl) ?_)
        simp only [List.map_cons, List.map_nil, e0]
        refine (top_any s.d W (by omega)).mono ?_
        rintro e w5 ⟨rfl, rfl⟩
        exact ⟨_, rfl, _, rfl, rfl, hI.g, steps_other (by decide) (Rel.refl _ _)⟩
      rcases ix with _ | ix
      · obtain rfl := (Option.some.inj hi).symm
        have e : A.eval (.tmp 7) = .pointer (some ⟨w3.heap.size, 0, none⟩) := hI.old 7 (by kernel_rfl)
        refine at_op rfl rfl (val_op (v := .pointer (some ⟨w3.heap.size, 3, none⟩)) ?_ ⟨_, rfl, rfl, hI.g, steps_other (by decide) (Rel.refl _ _)⟩)
        unfold execOp
        simp only [List.getElem_toArray, List.getElem_cons_zero, List.getElem_cons_succ, e]
        simp [go_sem]
      rcases ix with _ | ix
      · obtain rfl := (Option.some.inj hi).symm
        have e : A.eval (.tmp 36) = .pointer (some ⟨w3.heap.size, 3, none⟩) := hI.get hd 4 36 rfl (by kernel_rfl)
        exact at_op rfl rfl (load_op rfl Try.underlying2 e (show W.cell? ⟨w3.heap.size, 3, none⟩ = some (.int .i64 out.n) from hI.g.r7.cell 3) ⟨_, rfl, rfl, hI.g, steps_other (by decide) (Rel.refl _ _)⟩)
      rcases ix with _ | ix
      · obtain rfl := (Option.some.inj hi).symm
        have e1 : A.eval (.tmp 37) = .int .i64 out.n := hI.get hd 5 37 rfl (by kernel_rfl)
        exact at_op rfl rfl (bin_op (vy := .int .i64 0) rfl e1 rfl (fun w => by simp [go_sem]; omega) ⟨_, rfl, rfl, hI.g, steps_other (by decide) (Rel.refl _ _)⟩)
      rcases ix with _ | ix
      · obtain rfl := (Option.some.inj hi).symm
        have e1 : A.eval (.tmp 32) = .agg #[.int .i64 out.d, .bool out.b, .bool out.l, .int .i64 out.n, .int .i64 out.x, .bool out.t] := hI.get hd 0 32 rfl (by kernel_rfl)
        have e2 : A.eval (.tmp 4) = .pointer (some ⟨w.heap.size + 1, 0, none⟩) := hI.old 4 (by kernel_rfl)
        obtain ⟨oc, hrs, hr⟩ := hI.g.r4
        exact at_op rfl rfl (wp_store_row _ _ _ rfl _ _ e2 e1 _ _ hr.row info_sr hrs (by simp [Value.oneCell']) ⟨_, rfl, setRow_heap W _ _ _ _ _ hr.row, hI.g.store (by omega) (by omega) (by omega) _ rfl, steps_same (Rel.onto (row_set _) rfl)⟩)
      rcases ix with _ | ix
      · obtain rfl := (Option.some.inj hi).symm
        have e : A.eval (.tmp 35) = .int .i64 (s.d / 128) := hI.get hd 3 35 rfl (by kernel_rfl)
        exact at_op rfl rfl (assign_op rfl ⟨_, rfl, e, hI.g, steps_other (by decide) (Rel.refl _ _)⟩)
      rcases ix with _ | ix
      · obtain rfl := (Option.some.inj hi).symm
        have e : A.eval (.tmp 38) = .bool false := hI.get hd 6 38 rfl (by kernel_rfl)
        exact at_op rfl rfl (assign_op rfl ⟨_, rfl, e, hI.g, steps_other (by decide) (Rel.refl _ _)⟩)
      omega
    case done =>
      intro A W hI
      have e4 : A.tmps.getD 4 undef = .pointer (some ⟨w.heap.size + 1, 0, none⟩) := hI.old 4 (by kernel_rfl)
      have e5 : A.tmps.getD 5 undef = .int .i64 (s.d / 128) := hI.slot 8 5 rfl rfl
      have e6 : A.tmps.getD 6 undef = .bool false := hI.slot 9 6 rfl rfl
      obtain ⟨vv, hv⟩ := hI.eff 7 _ rfl rfl rfl
      have hrow : Row W (w.heap.size + 1) #[.int .i64 out.d, .bool out.b, .bool out.l, .int .i64 out.n, .int .i64 out.x, .bool out.t] 29 := Row.of hv
      have hA := frame_lit A 39 hI.size
      have hg := hI.g
      have hde : A.defers = [] := hI.defers
      rw [hde, show List.range 39 = [0, 1, 2, 3, 4, 5, 6, 7, 8, 9, 10, 11, 12, 13, 14, 15, 16, 17, 18, 19, 20, 21, 22, 23, 24, 25, 26, 27, 28, 29, 30, 31, 32, 33, 34, 35, 36, 37, 38] from rfl] at hA
      simp only [List.map_cons, List.map_nil, e4, e5, e6] at hA
      rw [hA]
      clear hA e4 e5 e6 hI hde
      go_wp2
      refine ret_row_tmp2 rfl rfl hrow und_sr rfl info_sr rfl rfl rfl ?_
      exact ⟨by rw [hsd]; rfl, hg.bel⟩
end Go.Proofs.Ytdcmjajipkpbnaa.Srl
