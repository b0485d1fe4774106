/-
  Two of anything as an array, and its list: slices of an array's block.
-/
import Derived.Test.YtjjafaikaghlgaaPrMm
import Derived.Test.YtjjafaikaghlgaaKrl
namespace Go.Proofs.Ytjjafaikaghlgaa.Mem
open Go.ChangeShapes Go.WideShapes Go.RowKit Base Num Slc Slf Rw Tmr Reg Ex
set_option linter.unusedVariables false
set_option linter.unusedSimpArgs false
set_option maxRecDepth 20000

section
variable {ops : Array Oper} {rest : List Oper} {o : Oper} {a : Act} {w : World} {Q : Exit → Act → World → Prop} {p : Operand} {T : TypeId} {cs : Array Value}
theorem boxA (hgd : o.guard = none) (ho : o.op = .box T p) (hx : a.eval p = .agg cs)
    (h : ∀ w', w' = w.alloc (.cells cs T) → wpList Try.prog ops Q rest (a.put o.dst (.pointer (some ⟨w.heap.size, 0, none⟩))) w') : wpList Try.prog ops Q (o :: rest) a w :=
  wpList_plain hgd fun _ hK => by
    have e : (Instr.box T (.agg cs)).run Try.prog w = .ok (.pointer (some ⟨w.heap.size, 0, none⟩)) (w.alloc (.cells cs T)) := rfl
    unfold Oper.wp execOp
    simp only [ho, hx, Sem.run_bind, Result.andThen_ok, e]
    exact hK _ _ (h _ rfl)
end
/-- A block that has just been made holds a list of one's own. -/
theorem own_new {f : Fl Value} (hf : f.Ok) (B : TypeId) (w : World) (cs : Array Value) (us : List Value) (hc : cs.toList = f.flat us) (hm : us.length ≤ maxLen) :
    OwnB B f w.heap.size (w.alloc (.cells cs B)) (.slice (some ⟨w.heap.size, 0, none⟩) us.length us.length) us := by
  have hs : cs.size = us.length * f.n := by rw [← Array.length_toList, hc, flat_len hf]
  exact ⟨flat_len hf us, .inr ⟨w.heap.size, us.length, cs, rfl, Nat.le_refl _, heap_alloc_new w _, Nat.le_refl _, hm, hs, by rw [← hc, List.take_of_length_le (by simp; omega)]⟩⟩
theorem listMc_impl (cs : Array Value) (us : List Value) (w : World) (h2 : us.length = 2) (hc : cs.toList = fIMc.flat us) :
    Calls Try.prog 74 #[.agg cs] w fun e w' => ∃ v', e = .returned v' ∧ OwnB 82 fIMc w.heap.size w' v' us ∧ Below w.heap.size w w' := by
  obtain ⟨vv, hvv⟩ : ∃ vv, vv = Value.agg cs := ⟨_, rfl⟩
  rw [← hvv]
  go_enter Try.func74, Try.ntmps74
  go_wp2_with (first
    | (refine boxA rfl rfl hvv ?_; rintro w1 rfl))
  go_ret
  have := own_new okIMc 82 w cs us hc (by rw [h2]; decide)
  rw [h2] at this
  exact ⟨_, rfl, this, (Below.refl _ _).alloc (Nat.le_refl _) _⟩
theorem listMs_impl (cs : Array Value) (us : List Value) (w : World) (h2 : us.length = 2) (hc : cs.toList = fIMs.flat us) :
    Calls Try.prog 75 #[.agg cs] w fun e w' => ∃ v', e = .returned v' ∧ OwnB 84 fIMs w.heap.size w' v' us ∧ Below w.heap.size w w' := by
  obtain ⟨vv, hvv⟩ : ∃ vv, vv = Value.agg cs := ⟨_, rfl⟩
  rw [← hvv]
  go_enter Try.func75, Try.ntmps75
  go_wp2_with (first
    | (refine boxA rfl rfl hvv ?_; rintro w1 rfl))
  go_ret
  have := own_new okIMs 84 w cs us hc (by rw [h2]; decide)
  rw [h2] at this
  exact ⟨_, rfl, this, (Below.refl _ _).alloc (Nat.le_refl _) _⟩
theorem listEv_impl (cs : Array Value) (us : List Value) (w : World) (h2 : us.length = 2) (hc : cs.toList = fIEv.flat us) :
    Calls Try.prog 76 #[.agg cs] w fun e w' => ∃ v', e = .returned v' ∧ OwnB 86 fIEv w.heap.size w' v' us ∧ Below w.heap.size w w' := by
  obtain ⟨vv, hvv⟩ : ∃ vv, vv = Value.agg cs := ⟨_, rfl⟩
  rw [← hvv]
  go_enter Try.func76, Try.ntmps76
  go_wp2_with (first
    | (refine boxA rfl rfl hvv ?_; rintro w1 rfl))
  go_ret
  have := own_new okIEv 86 w cs us hc (by rw [h2]; decide)
  rw [h2] at this
  exact ⟨_, rfl, this, (Below.refl _ _).alloc (Nat.le_refl _) _⟩
theorem built_pr (x y z : Value) (h1 : x.oneCell' = true) (h2 : y.oneCell' = true) (h3 : z.oneCell' = true) : Try.prog.built 33 [(0, x), (1, y), (2, z)] = some #[x, y, z] := by
  cases x <;> first | (simp [Value.oneCell'] at h1; done) | (cases y <;> first | (simp [Value.oneCell'] at h2; done) | (cases z <;> first | (simp [Value.oneCell'] at h3; done) | kernel_rfl))
def kPr (g n1 : Nat) (uM uS uE : List Value) : List (Value → World → Prop) :=
  [KIs (.pointer (some ⟨g, 0, none⟩)), KIs (.pointer (some ⟨g, 0, none⟩)), KIs (.pointer (some ⟨g, 0, none⟩)), KIs (.agg (fIMc.flat uM).toArray), fun v W => OwnB 82 fIMc n1 W v uM,
   KIs (.pointer (some ⟨g, 0, none⟩)), KIs (.pointer (some ⟨g, 0, none⟩)), KIs (.pointer (some ⟨g, 50, none⟩)), KIs (.agg (fIMs.flat uS).toArray), fun v W => OwnB 84 fIMs n1 W v uS,
   KIs (.pointer (some ⟨g, 0, none⟩)), KIs (.pointer (some ⟨g, 0, none⟩)), KIs (.pointer (some ⟨g, 52, none⟩)), KIs (.agg (fIEv.flat uE).toArray), fun v W => OwnB 86 fIEv n1 W v uE,
   fun v W => ∃ x y z, v = .agg #[x, y, z] ∧ OwnB 82 fIMc n1 W x uM ∧ OwnB 84 fIMs n1 W y uS ∧ OwnB 86 fIEv n1 W z uE]
theorem kPr_keep (g n1 : Nat) (uM uS uE : List Value) (j : Nat) (v : Value) (W W' : World) (h : (kPr g n1 uM uS uE).getD j KAny v W) (hk : ∀ p, n1 ≤ p → p < W.heap.size → W'.heap[p]? = W.heap[p]?) : (kPr g n1 uM uS uE).getD j KAny v W' := by
  have key : ∀ {B : TypeId} {f : Fl Value} {x : Value} {us : List Value}, OwnB B f n1 W x us → OwnB B f n1 W' x us := fun h => h.kept fun p hp => hk p (h.lt p hp).1 (h.lt p hp).2
  rcases j with _ | _ | _ | _ | _ | _ | _ | _ | _ | _ | _ | _ | _ | _ | _ | _ | j
  all_goals first | exact h | exact key h | skip
  · obtain ⟨x, y, z, e, h1, h2, h3⟩ := h
    exact ⟨x, y, z, e, key h1, key h2, key h3⟩
set_option maxHeartbeats 2000000 in
theorem pair_impl (w : World) (g : Nat) (cs : Array Value) (uM uS uE : List Value) (m2 : uM.length = 2) (s2 : uS.length = 2) (e2 : uE.length = 2) (hr : Row w g cs 88) (hc : cs.toList = fIMc.flat uM ++ fIMs.flat uS ++ fIEv.flat uE) :
    Calls Try.prog 44 #[.pointer (some ⟨g, 0, none⟩)] w fun e w' => ∃ x y z, e = .returned (.agg #[x, y, z]) ∧ OwnB 82 fIMc w.heap.size w' x uM ∧ OwnB 84 fIMs w.heap.size w' y uS ∧ OwnB 86 fIEv w.heap.size w' z uE ∧ Below w.heap.size w w' := by
  have hgl := hr.lt
  have lM : (fIMc.flat uM).length = 50 := by rw [flat_len okIMc, m2]; rfl
  have lS : (fIMs.flat uS).length = 2 := by rw [flat_len okIMs, s2]; rfl
  have lE : (fIEv.flat uE).length = 2 := by rw [flat_len okIEv, e2]; rfl
  have cell : ∀ W, Row W g cs 88 → ∀ k, W.cell? ⟨g, k, none⟩ = (fIMc.flat uM ++ fIMs.flat uS ++ fIEv.flat uE)[k]? := fun W h k => by rw [h.cell k, ← hc, Array.getElem?_toList]
  have r1 : ∀ W, Row W g cs 88 → W.rangeAt g 0 (fIMc.flat uM) := fun W h j v hj => by
    have hl := (List.getElem?_eq_some_iff.1 hj).1
    rw [cell W h, Nat.zero_add, List.append_assoc, List.getElem?_append_left hl]; exact hj
  have r2 : ∀ W, Row W g cs 88 → W.rangeAt g 50 (fIMs.flat uS) := fun W h j v hj => by
    have hl := (List.getElem?_eq_some_iff.1 hj).1
    rw [cell W h, List.getElem?_append_left (by rw [List.length_append]; omega), List.getElem?_append_right (by omega), lM, Nat.add_sub_cancel_left]; exact hj
  have r3 : ∀ W, Row W g cs 88 → W.rangeAt g 52 (fIEv.flat uE) := fun W h j v hj => by
    rw [cell W h, List.getElem?_append_right (by rw [List.length_append]; omega), List.length_append, lM, lS, Nat.add_sub_cancel_left]; exact hj
  go_enter Try.func44, Try.ntmps44
  go_wp2_with (first
    | (refine al_pr rfl rfl ?_; intro w1 z1 hB1))
  have hz := z1.lt
  have hsz1 := hB1.size
  have h0 : Row w1 g cs 88 ∧ (Row w1 w.heap.size #[.slice none 0 0, .slice none 0 0, .slice none 0 0] 33 ∧ Below w.heap.size w w1) ∧ w1.heap.size ≤ w1.heap.size := ⟨hr.below hB1, ⟨z1, hB1⟩, Nat.le_refl _⟩
  have hne : w.heap.size < w1.heap.size := hz
  obtain ⟨n1, hn1⟩ : ∃ n1, w1.heap.size = n1 := ⟨_, rfl⟩
  clear hr z1 hc cell
  refine region_kl (by kernel_rfl) (by kernel_rfl) (by kernel_rfl) 16 w.heap.size (by decide) (fun W => Row W g cs 88 ∧ (Row W w.heap.size #[.slice none 0 0, .slice none 0 0, .slice none 0 0] 33 ∧ Below w.heap.size w W) ∧ n1 ≤ W.heap.size)
    (fun W => ∃ x y z, Row W w.heap.size #[x, y, z] 33 ∧ OwnB 82 fIMc n1 W x uM ∧ OwnB 84 fIMs n1 W y uS ∧ OwnB 86 fIEv n1 W z uE ∧ Below w.heap.size w W)
    (fun j => (kPr g n1 uM uS uE).getD j KAny) ?hG ?hE ?hK ?hKs ?h0 ?step ?last ?done
  case hG => exact fun W W' h hb => ⟨h.1.below hb, ⟨h.2.1.1.below hb, below_more h.2.1.2 hb⟩, Nat.le_trans h.2.2 hb.size⟩
  case hE => exact fun W W' h hb => by obtain ⟨x, y, z, q1, q2, q3, q4, q5⟩ := h; exact ⟨x, y, z, q1.below hb, q2.below hb, q3.below hb, q4.below hb, below_more q5 hb⟩
  case hK => exact fun j v W W' h hb => kPr_keep g n1 uM uS uE j v W W' h fun p _ hl => hb.block p hl
  case hKs => exact fun j v W W' h hb => kPr_keep g n1 uM uS uE j v W W' h fun p hp hl => hb.block p (by omega) hl
  case h0 => exact ⟨h0.1.below (drew_below (n := 1) rfl), ⟨h0.2.1.1.below (drew_below (n := 1) rfl), below_more h0.2.1.2 (drew_below (n := 1) rfl)⟩, by rw [← hn1]; exact Nat.le_refl _⟩
  case step =>
    intro L ix o A W hne hi hI hg hd
    have hin : ix < 17 := by
      by_cases hl : ix < 17
      · exact hl
      · simp [hl] at hi
    have hsz : A.tmps.size = 19 := hI.size
    rcases ix with _ | _ | _ | _ | _ | _ | _ | _ | _ | _ | _ | _ | _ | _ | _ | _ | _ | ix
    · cases hi
      exact at_op rfl rfl (move_op rfl ⟨_, rfl, hI.old 0 (by kernel_rfl), Below.refl _ _⟩)
    · cases hi
      have e0 : A.eval (.tmp 3) = .pointer (some ⟨g, 0, none⟩) := hI.kd hd 0 3 rfl rfl (by kernel_rfl) (by decide)
      exact at_op rfl rfl (nil_op rfl e0 ⟨_, rfl, rfl, Below.refl _ _⟩)
    · cases hi
      have e0 : A.eval (.tmp 4) = .pointer (some ⟨g, 0, none⟩) := hI.kd hd 1 4 rfl rfl (by kernel_rfl) (by decide)
      refine at_op rfl rfl (val_op (v := .pointer (some ⟨g, 0, none⟩)) ?_ ⟨_, rfl, rfl, Below.refl _ _⟩)
      unfold execOp
      simp only [List.getElem_toArray, List.getElem_cons_zero, List.getElem_cons_succ, e0]
      simp [go_sem]
    · cases hi
      have e0 : A.eval (.tmp 5) = .pointer (some ⟨g, 0, none⟩) := hI.kd hd 2 5 rfl rfl (by kernel_rfl) (by decide)
      have hg' := hg (by kernel_rfl)
      exact at_op rfl rfl (wp_load_mid 82 _ rfl g 0 e0 (fIMc.flat uM) _ (r1 W hg'.1) Try.underlying82 rfl (by rw [flat_len okIMc, m2]; kernel_rfl) ⟨_, rfl, rfl, Below.refl _ _⟩)
    · cases hi
      have e0 : A.eval (.tmp 6) = .agg (fIMc.flat uM).toArray := hI.kd hd 3 6 rfl rfl (by kernel_rfl) (by decide)
      refine at_op rfl rfl (call_op rfl Try.func74 (by kernel_rfl) (by kernel_rfl) ?_)
      simp only [List.map_cons, List.map_nil, e0]
      refine (listMc_impl (fIMc.flat uM).toArray uM W m2 (by simp)).mono ?_
      rintro e W2 ⟨v, rfl, hv, hb⟩
      have hg' := hg (by kernel_rfl)
      exact ⟨_, rfl, _, rfl, hv.mono hg'.2.2, hb⟩
    · cases hi
      exact at_op rfl rfl (move_op rfl ⟨_, rfl, hI.old 0 (by kernel_rfl), Below.refl _ _⟩)
    · cases hi
      have e0 : A.eval (.tmp 8) = .pointer (some ⟨g, 0, none⟩) := hI.kd hd 5 8 rfl rfl (by kernel_rfl) (by decide)
      exact at_op rfl rfl (nil_op rfl e0 ⟨_, rfl, rfl, Below.refl _ _⟩)
    · cases hi
      have e0 : A.eval (.tmp 9) = .pointer (some ⟨g, 0, none⟩) := hI.kd hd 6 9 rfl rfl (by kernel_rfl) (by decide)
      refine at_op rfl rfl (val_op (v := .pointer (some ⟨g, 50, none⟩)) ?_ ⟨_, rfl, rfl, Below.refl _ _⟩)
      unfold execOp
      simp only [List.getElem_toArray, List.getElem_cons_zero, List.getElem_cons_succ, e0]
      simp [go_sem]
    · cases hi
      have e0 : A.eval (.tmp 10) = .pointer (some ⟨g, 50, none⟩) := hI.kd hd 7 10 rfl rfl (by kernel_rfl) (by decide)
      have hg' := hg (by kernel_rfl)
      exact at_op rfl rfl (wp_load_mid 84 _ rfl g 50 e0 (fIMs.flat uS) _ (r2 W hg'.1) Try.underlying84 rfl (by rw [flat_len okIMs, s2]; kernel_rfl) ⟨_, rfl, rfl, Below.refl _ _⟩)
    · cases hi
      have e0 : A.eval (.tmp 11) = .agg (fIMs.flat uS).toArray := hI.kd hd 8 11 rfl rfl (by kernel_rfl) (by decide)
      refine at_op rfl rfl (call_op rfl Try.func75 (by kernel_rfl) (by kernel_rfl) ?_)
      simp only [List.map_cons, List.map_nil, e0]
      refine (listMs_impl (fIMs.flat uS).toArray uS W s2 (by simp)).mono ?_
      rintro e W2 ⟨v, rfl, hv, hb⟩
      have hg' := hg (by kernel_rfl)
      exact ⟨_, rfl, _, rfl, hv.mono hg'.2.2, hb⟩
    · cases hi
      exact at_op rfl rfl (move_op rfl ⟨_, rfl, hI.old 0 (by kernel_rfl), Below.refl _ _⟩)
    · cases hi
      have e0 : A.eval (.tmp 13) = .pointer (some ⟨g, 0, none⟩) := hI.kd hd 10 13 rfl rfl (by kernel_rfl) (by decide)
      exact at_op rfl rfl (nil_op rfl e0 ⟨_, rfl, rfl, Below.refl _ _⟩)
    · cases hi
      have e0 : A.eval (.tmp 14) = .pointer (some ⟨g, 0, none⟩) := hI.kd hd 11 14 rfl rfl (by kernel_rfl) (by decide)
      refine at_op rfl rfl (val_op (v := .pointer (some ⟨g, 52, none⟩)) ?_ ⟨_, rfl, rfl, Below.refl _ _⟩)
      unfold execOp
      simp only [List.getElem_toArray, List.getElem_cons_zero, List.getElem_cons_succ, e0]
      simp [go_sem]
    · cases hi
      have e0 : A.eval (.tmp 15) = .pointer (some ⟨g, 52, none⟩) := hI.kd hd 12 15 rfl rfl (by kernel_rfl) (by decide)
      have hg' := hg (by kernel_rfl)
      exact at_op rfl rfl (wp_load_mid 86 _ rfl g 52 e0 (fIEv.flat uE) _ (r3 W hg'.1) Try.underlying86 rfl (by rw [flat_len okIEv, e2]; kernel_rfl) ⟨_, rfl, rfl, Below.refl _ _⟩)
    · cases hi
      have e0 : A.eval (.tmp 16) = .agg (fIEv.flat uE).toArray := hI.kd hd 13 16 rfl rfl (by kernel_rfl) (by decide)
      refine at_op rfl rfl (call_op rfl Try.func76 (by kernel_rfl) (by kernel_rfl) ?_)
      simp only [List.map_cons, List.map_nil, e0]
      refine (listEv_impl (fIEv.flat uE).toArray uE W e2 (by simp)).mono ?_
      rintro e W2 ⟨v, rfl, hv, hb⟩
      have hg' := hg (by kernel_rfl)
      exact ⟨_, rfl, _, rfl, hv.mono hg'.2.2, hb⟩
    · cases hi
      have t0 : OwnB 82 fIMc n1 W (A.eval (.tmp 7)) uM := hI.kd hd 4 7 rfl rfl (by kernel_rfl) (by decide)
      have t1 : OwnB 84 fIMs n1 W (A.eval (.tmp 12)) uS := hI.kd hd 9 12 rfl rfl (by kernel_rfl) (by decide)
      have t2 : OwnB 86 fIEv n1 W (A.eval (.tmp 17)) uE := hI.kd hd 14 17 rfl rfl (by kernel_rfl) (by decide)
      exact at_op rfl rfl (build_op (parts := [(0, .tmp 7), (1, .tmp 12), (2, .tmp 17)]) (vals := [(0, A.eval (.tmp 7)), (1, A.eval (.tmp 12)), (2, A.eval (.tmp 17))]) (cs := #[A.eval (.tmp 7), A.eval (.tmp 12), A.eval (.tmp 17)]) rfl rfl (built_pr _ _ _ (t0.one okIMc) (t1.one okIMs) (t2.one okIEv)) ⟨_, rfl, ⟨_, _, _, rfl, t0, t1, t2⟩, Below.refl _ _⟩)
    · exact absurd rfl hne
    omega
  case last =>
    intro L o A W hi hI hg hd
    cases hi
    have hsz : A.tmps.size = 19 := hI.size
    have e2 : A.eval (.tmp 2) = .pointer (some ⟨w.heap.size, 0, none⟩) := hI.old 2 (by kernel_rfl)
    obtain ⟨x, y, z, ev, q1, q2, q3⟩ : ∃ x y z, A.eval (.tmp 18) = .agg #[x, y, z] ∧ OwnB 82 fIMc n1 W x uM ∧ OwnB 84 fIMs n1 W y uS ∧ OwnB 86 fIEv n1 W z uE := hI.kd hd 15 18 rfl rfl (by kernel_rfl) (by decide)
    have o1 := q1.one okIMc
    have o2 := q2.one okIMs
    have o3 := q3.one okIEv
    unfold Value.oneCell' at o1 o2 o3
    have hon : Onto w.heap.size W (W.setRow w.heap.size #[x, y, z]) := ⟨rfl, rfl, rfl, by simp, fun k hk _ => setRow_other W w.heap.size k #[x, y, z] hk⟩
    refine at_op rfl rfl (wp_store_row _ _ _ rfl w.heap.size #[x, y, z] e2 ev _ _ hg.2.1.1.row sz_ip rfl (by simp only [List.all_toArray, List.all_cons, List.all_nil, Value.oneCell', o1, o2, o3, Bool.and_true]) ⟨_, rfl, ⟨x, y, z, Row.of (setRow_heap W w.heap.size _ #[x, y, z] _ _ hg.2.1.1.row), q1.kept fun p hp => hon.block p (by have := (q1.lt p hp).1; omega) (q1.lt p hp).2, q2.kept fun p hp => hon.block p (by have := (q2.lt p hp).1; omega) (q2.lt p hp).2, q3.kept fun p hp => hon.block p (by have := (q3.lt p hp).1; omega) (q3.lt p hp).2, below_onto hg.2.1.2 hon (Nat.le_refl _)⟩, hon⟩)
  case done =>
    intro A W hI hE
    obtain ⟨x, y, z, q1, q2, q3, q4, q5⟩ := hE
    have e2 : A.tmps.getD 2 undef = .pointer (some ⟨w.heap.size, 0, none⟩) := hI.old 2 (by kernel_rfl)
    have hA := hI.frame [3, 4, 5, 6, 7, 8, 9, 10, 11, 12, 13, 14, 15, 16, 17, 18] (by kernel_rfl)
    rw [hA]
    simp only [putAll, List.foldl_cons, List.foldl_nil, Act.put, List.setIfInBounds_toArray, List.set_cons_zero, List.set_cons_succ]
    clear hA hI e2
    go_wp2
    refine ret_row rfl rfl q1 Try.underlying33 rfl sz_ip rfl ?_
    exact ⟨x, y, z, rfl, q2.mono (by omega), q3.mono (by omega), q4.mono (by omega), q5⟩
end Go.Proofs.Ytjjafaikaghlgaa.Mem
