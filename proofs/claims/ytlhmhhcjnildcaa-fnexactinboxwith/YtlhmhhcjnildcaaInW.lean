/-
  Inboxes: the program's InboxWith.
-/
import Derived.Test.YtlhmhhcjnildcaaInJ
namespace Go.Proofs.Ytlhmhhcjnildcaa.Mem
open Go.ChangeShapes Go.WideShapes Go.RowKit Base Num Slc Slf Rw Tmr Reg
set_option linter.unusedVariables false
set_option linter.unusedSimpArgs false
set_option maxRecDepth 20000

def KSl (l : List M3) (v : Value) (W : World) : Prop := SlF fM W v l
def KOwn (base : Nat) (l : List M3) (v : Value) (W : World) : Prop := OwnF fM base W v l
/-- A list of three lists. -/
def KThr (l0 l1 l2 : List M3) (v : Value) (W : World) : Prop := ∃ q v0 v1 v2, v = .slice (some ⟨q, 0, none⟩) 3 3 ∧ W.cell? ⟨q, 0, none⟩ = some v0 ∧ W.cell? ⟨q, 1, none⟩ = some v1 ∧ W.cell? ⟨q, 2, none⟩ = some v2 ∧ SlF fM W v0 l0 ∧ SlF fM W v1 l1 ∧ SlF fM W v2 l2
theorem slF_rel {w w' : World} {v : Value} {l : List M3} (h : SlF fM w v l) (hr : Rel (fun _ => False) w w') : SlF fM w' v l := by
  obtain ⟨a, c, rfl, h1, h2⟩ := h
  exact ⟨a, c, rfl, h1.keep hr.1 (fun h0 x hx => hr.2 _ id (h1.lt h0 x hx)), h2⟩
theorem bears_slF (l : List M3) : Bears (fun _ => False) (KSl l) := fun v w w' h hr => slF_rel h hr
theorem bears_ownF (base : Nat) (l : List M3) : Bears (fun _ => False) (KOwn base l) := fun v w w' h hr => OwnF.kept h (fun k hk => hr.2 k id (OwnF.lt h k hk).2)
theorem bears_thr (l0 l1 l2 : List M3) : Bears (fun _ => False) (KThr l0 l1 l2) := fun v w w' h hr => by
  obtain ⟨q, v0, v1, v2, e, c0, c1, c2, s0, s1, s2⟩ := h
  have hb := hr.2 q id (cell_lt c0)
  exact ⟨q, v0, v1, v2, e, by rw [World.cell?_of_block (w := w) (a := ⟨q, 0, none⟩) hb]; exact c0, by rw [World.cell?_of_block (w := w) (a := ⟨q, 1, none⟩) hb]; exact c1, by rw [World.cell?_of_block (w := w) (a := ⟨q, 2, none⟩) hb]; exact c2, slF_rel s0 hr, slF_rel s1 hr, slF_rel s2 hr⟩
section
variable {o : Oper} {a : Act} {w : World} {K : Act → World → Prop} {Q : Exit → Act → World → Prop} {x y z : Operand} {v : Value} {l : List M3} {k : Nat}
theorem lenM_op {ad : Option Addr} {n c : Nat} (ho : o.op = .call { callee := .builtin .len, args := #[x], argTypes := #[25] }) (hx : a.eval x = .slice ad n c) (h : K (a.put o.dst (.int .i64 (n : Int))) w) : o.wp Try.prog a w K Q := by
  refine val_op (v := .int .i64 (n : Int)) ?_ h
  clear h
  generalize a.eval = ev at hx ⊢
  unfold execOp
  simp only [ho]
  have hu := okM.und
  simp [go_sem, hx, hu]
theorem takeS_op (ho : o.op = .slice 25 x none (some y) none) (hx : a.eval x = v) (hy : a.eval y = .int .i64 (k : Int)) (hk : k ≤ l.length) (hs : SlF fM w v l) (h : ∀ v', SlF fM w v' (l.take k) → K (a.put o.dst v') w) : o.wp Try.prog a w K Q := by
  by_cases h0 : 0 < l.length
  · obtain ⟨b, off, c, rfl, -, h2, h3⟩ := hs.shape h0
    exact toF_op okM ho hx hy (by omega) (by omega) (h _ (hs.take okM k hk))
  · have h0' : l = [] := List.eq_nil_of_length_eq_zero (by omega)
    subst h0'
    obtain rfl : k = 0 := by simpa using hk
    obtain ⟨ad, c, rfl, h1, h2, h3, h4⟩ := id hs
    exact to0_op okM (fun e => (h4 e).2) ho hx hy (h _ hs)
theorem dropS_op (ho : o.op = .slice 25 x (some y) none none) (hx : a.eval x = v) (hy : a.eval y = .int .i64 (k : Int)) (hk : k ≤ l.length) (hs : SlF fM w v l) (h : ∀ v', SlF fM w v' (l.drop k) → K (a.put o.dst v') w) : o.wp Try.prog a w K Q := by
  by_cases h0 : 0 < l.length
  · obtain ⟨b, off, c, rfl, -, h2, h3⟩ := hs.shape h0
    by_cases hrc : k < c
    · exact fromF_op okM ho hx hy hk h2 hrc (h _ (hs.drop okM k hk hrc))
    · obtain rfl : k = l.length := by omega
      obtain rfl : c = l.length := by omega
      refine endF_op okM ho hx hy (h _ ?_)
      have : l.drop l.length = [] := List.drop_of_length_le (by omega)
      rw [this]
      exact ⟨_, 0, rfl, .inl rfl, Nat.le_refl _, by decide, by simp⟩
  · have h0' : l = [] := List.eq_nil_of_length_eq_zero (by omega)
    subst h0'
    obtain rfl : k = 0 := by simpa using hk
    obtain ⟨ad, c, rfl, h1, h2, h3, h4⟩ := id hs
    exact from0_op okM (fun e => (h4 e).2) ho hx hy (h _ hs)
theorem undMM : Try.prog.underlying 52 = some (.slice 25) := by kernel_rfl
theorem infoS : (Try.prog.info? 25).map (fun i => (i.zero, i.size, i.bytes)) = some (some (.slice none 0 0), 1, 24) := by kernel_rfl
theorem lit3_op {l0 l1 l2 : List M3} (ho : o.op = .buildSlice 52 3 #[(0, x), (1, y), (2, z)]) (e0 : SlF fM w (a.eval x) l0) (e1 : SlF fM w (a.eval y) l1) (e2 : SlF fM w (a.eval z) l2)
    (h : ∀ W1, KThr l0 l1 l2 (.slice (some ⟨w.heap.size, 0, none⟩) 3 3) W1 → Below w.heap.size w W1 → K (a.put o.dst (.slice (some ⟨w.heap.size, 0, none⟩) 3 3)) W1) : o.wp Try.prog a w K Q := by
  obtain ⟨i0, hi, hz0, hz1, hz2⟩ := info_parts infoS
  obtain ⟨v0, h0⟩ : ∃ v0, a.eval x = v0 := ⟨_, rfl⟩
  obtain ⟨v1, h1⟩ : ∃ v1, a.eval y = v1 := ⟨_, rfl⟩
  obtain ⟨v2, h2⟩ : ∃ v2, a.eval z = v2 := ⟨_, rfl⟩
  rw [h0] at e0
  rw [h1] at e1
  rw [h2] at e2
  have hb : Below w.heap.size w (w.alloc (.cells #[v0, v1, v2] 25)) := (Below.refl _ _).alloc (Nat.le_refl _) _
  refine wp_buildSlice 52 25 3 #[(0, x), (1, y), (2, z)] ho #[v0, v1, v2] i0 (.slice none 0 0) undMM hi hz0 (by rw [hz1]; decide) (by rw [hz1]; decide) ?_ (h _ ⟨w.heap.size, v0, v1, v2, rfl, by rw [World.cell?_alloc_new]; rfl, by rw [World.cell?_alloc_new]; rfl, by rw [World.cell?_alloc_new]; rfl, e0.below hb, e1.below hb, e2.below hb⟩ hb)
  rw [hz1]
  obtain ⟨a0, c0, rfl, -⟩ := e0
  obtain ⟨a1, c1, rfl, -⟩ := e1
  obtain ⟨a2, c2, rfl, -⟩ := e2
  simp only [List.map_toArray, List.map_cons, List.map_nil, h0, h1, h2]
  kernel_rfl
end
set_option maxHeartbeats 2000000 in
theorem inboxWith_impl (v : Value) (l : List M3) (m : M3) (w : World) (h : SlF fM w v l) :
    Calls Try.prog 13 #[v, m.val] w fun e w' => ∃ v', e = .returned (.tuple #[v', .bool (inboxWith l m).2]) ∧ OwnF fM w.heap.size w' v' (inboxWith l m).1 ∧ Below w.heap.size w w' := by
  obtain ⟨vv, hvv⟩ : ∃ vv, vv = m.val := ⟨_, rfl⟩
  obtain ⟨r, HR⟩ : ∃ r, Hid (r = inboxWith l m) := ⟨_, show _ = _ from rfl⟩
  rw [← hvv, ← HR.out]
  have hone := h.one
  obtain ⟨a, c, rfl, -, hlc, hcm, -⟩ := id h
  unfold maxLen at hcm
  cases hok : inboxOk l
  · have hr : Hid (r = ([], false)) := show _ = _ by rw [HR.out]; simp [inboxWith, hok]
    go_enter Try.func13, Try.ntmps13
    go_wp2_with (first
      | (refine box_m3 rfl rfl hvv ?_; intro w0 r0 hB0; have hs0 := h.below hB0)
      | (go_at_call 9; refine (inboxOk_impl _ l _ hs0).mono ?_; rintro e w1 ⟨rfl, hb1⟩; rw [hok]; have hB1 := below_more hB0 hb1))
    go_ret2
    rw [hr.out]
    exact ⟨_, rfl, OwnF.nil _ _ _, hB1⟩
  · have hfew := inboxOk_few hok
    have HS : Hid (∀ i, i + 1 < l.length → later (M3.at' l i) (M3.at' l (i + 1)) = false) := (fits_all.1 hok).2.1
    by_cases h2 : 200 ≤ l.length
    · have hr : Hid (r = (l, false)) := show _ = _ by rw [HR.out]; simp [inboxWith, hok, h2]
      have hd : ((l.length : Int) == 200) = true := by simp; omega
      go_enter Try.func13, Try.ntmps13
      go_wp2_with (first
        | (refine box_m3 rfl rfl hvv ?_; intro w0 r0 hB0; have hs0 := h.below hB0)
        | (go_at_call 9; refine (inboxOk_impl _ l _ hs0).mono ?_; rintro e w1 ⟨rfl, hb1⟩; rw [hok]; have hB1 := below_more hB0 hb1; have hs1 := hs0.below hb1)
        | (go_at_call 27; refine (clone_impl _ l _ hs1 (by omega)).mono ?_; rintro e w2 ⟨v2, rfl, ho2, hb2⟩; have hB2 := below_more hB1 hb2))
      go_ret2
      rw [hr.out]
      exact ⟨_, rfl, ho2.mono hB1.size, hB2⟩
    · have hd : ((l.length : Int) == 200) = false := by simp; omega
      cases hm : m.ok
      · have hr : Hid (r = (l, false)) := show _ = _ by rw [HR.out]; simp [inboxWith, hok, hm]
        go_enter Try.func13, Try.ntmps13
        go_wp2_with (first
          | (refine box_m3 rfl rfl hvv ?_; intro w0 r0 hB0; have hs0 := h.below hB0)
          | (go_at_call 9; refine (inboxOk_impl _ l _ hs0).mono ?_; rintro e w1 ⟨rfl, hb1⟩; rw [hok]; have hB1 := below_more hB0 hb1; have hs1 := hs0.below hb1; have r1 := r0.below hb1)
          | (refine ld_m3g rfl rfl rfl r1 ?_)
          | (go_at_call 21; refine (msgWrong_impl m _).mono ?_; rw [hm]; rintro e w2 ⟨rfl, hb2⟩; have hB2 := below_more hB1 hb2; have hs2 := hs1.below hb2)
          | (go_at_call 27; refine (clone_impl _ l _ hs2 (by omega)).mono ?_; rintro e w3 ⟨v3, rfl, ho3, hb3⟩; have hB3 := below_more hB2 hb3))
        go_ret2
        rw [hr.out]
        exact ⟨_, rfl, ho3.mono hB2.size, hB3⟩
      · have hr : Hid (r = (withM l m, true)) := show _ = _ by rw [HR.out]; simp [inboxWith, hok, hm, h2]
        go_enter Try.func13, Try.ntmps13
        go_wp2_with (first
          | (refine box_m3 rfl rfl hvv ?_; intro w0 r0 hB0; have hs0 := h.below hB0)
          | (go_at_call 9; refine (inboxOk_impl _ l _ hs0).mono ?_; rintro e w1 ⟨rfl, hb1⟩; rw [hok]; have hB1 := below_more hB0 hb1; have hs1 := hs0.below hb1; have r1 := r0.below hb1)
          | (refine ld_m3g rfl rfl rfl r1 ?_)
          | (go_at_call 21; refine (msgWrong_impl m _).mono ?_; rw [hm]; rintro e w2 ⟨rfl, hb2⟩; have hG : Gw w (.slice a l.length c) l m w2 := ⟨hs1.below hb2, r1.below hb2, below_more hB1 hb2⟩))
        clear h hlc hone
        go_loopw [6] (fun i wr => ∃ k : Nat, k ≤ l.length ∧ i = .int .i64 k ∧ (∀ j, j < k → later (M3.at' l j) m = false) ∧ Gw w (.slice a l.length c) l m wr) (fun i _ => l.length - (intOf i).toNat)
        case atStart => exact ⟨0, Nat.zero_le _, rfl, fun j hj => by omega, hG⟩
        case round =>
          clear hG hs0 hs1 r0 r1 hB0 hB1 hb1 hb2 hok hm
          obtain ⟨k, hkl, rfl, hall, hG⟩ := hrel
          by_cases hlt : k < l.length
          · obtain ⟨b, off, c', e, -, -, -⟩ := hG.sl.shape (by omega)
            simp only [Value.slice.injEq] at e
            obtain ⟨rfl, -, rfl⟩ := e
            cases hla : later (M3.at' l k) m
            · have hn : ord (M3.at' l k) m ≤ 0 := by
                have := ord_le (M3.at' l k) m
                rw [hla] at this
                simpa using this
              have HK : Hid (∀ j, j < k + 1 → later (M3.at' l j) m = false) := show ∀ _, _ from fun j hj => by
                by_cases e : j = k
                · rw [e]; exact hla
                · exact hall j (by omega)
              clear hall hla
              go_wp2_with fail
              refine region_known (by kernel_rfl) (by kernel_rfl) 0 (by decide) (by kernel_rfl) (fun _ W => Gw w (.slice (some ⟨b, off, none⟩) l.length c) l m W) [.int .i64 (k : Int), .slice (some ⟨b, off, none⟩) l.length c, .int .i64 (l.length : Int), .bool true, .bool true, .slice (some ⟨b, off, none⟩) l.length c, .int .i64 (k : Int), .pointer (some ⟨b, off + k * 3, none⟩), (M3.at' l k).val, m.val, .int .i64 (ord (M3.at' l k) m), .bool true, .bool true] hG.drew ?step ?done
              case step =>
                intro L ix o' A W hj hI hL hd
                have hin : ix < 13 := by
                  by_cases hl : ix < 13
                  · exact hl
                  · simp [hl] at hj
                have hsz : A.tmps.size = 44 := hI.size
                have hg := hI.g
                rcases ix with _ | ix
                · obtain rfl := (Option.some.inj hj).symm
                  have e0 : A.eval (.tmp 6) = .int .i64 (k : Int) := hI.old 6 (by kernel_rfl)
                  exact at_op rfl rfl (move_op rfl ⟨_, rfl, e0, hg⟩)
                rcases ix with _ | ix
                · obtain rfl := (Option.some.inj hj).symm
                  have e0 : A.eval (.tmp 0) = .slice (some ⟨b, off, none⟩) l.length c := hI.old 0 (by kernel_rfl)
                  exact at_op rfl rfl (move_op rfl ⟨_, rfl, e0, hg⟩)
                rcases ix with _ | ix
                · obtain rfl := (Option.some.inj hj).symm
                  have e0 : A.eval (.tmp 20) = .slice (some ⟨b, off, none⟩) l.length c := hI.val hd 1 20 rfl rfl (by kernel_rfl)
                  exact at_op rfl rfl (lenM_op rfl e0 ⟨_, rfl, rfl, hg⟩)
                rcases ix with _ | ix
                · obtain rfl := (Option.some.inj hj).symm
                  have e0 : A.eval (.tmp 19) = .int .i64 (k : Int) := hI.val hd 0 19 rfl rfl (by kernel_rfl)
                  have e1 : A.eval (.tmp 21) = .int .i64 (l.length : Int) := hI.val hd 2 21 rfl rfl (by kernel_rfl)
                  exact at_op rfl rfl (bin_op rfl e0 e1 (fun w => by first | (simp [go_sem]; done) | (simp [go_sem]; omega)) ⟨_, rfl, rfl, hg⟩)
                rcases ix with _ | ix
                · obtain rfl := (Option.some.inj hj).symm
                  have e0 : A.eval (.tmp 22) = .bool true := hI.val hd 3 22 rfl rfl (by kernel_rfl)
                  exact at_op rfl rfl (move_op rfl ⟨_, rfl, e0, hg⟩)
                rcases ix with _ | ix
                · obtain rfl := (Option.some.inj hj).symm
                  have hgv : A.tmps.getD 23 undef = .bool true := hI.val hd 4 23 rfl rfl (by kernel_rfl)
                  have e0 : A.eval (.tmp 0) = .slice (some ⟨b, off, none⟩) l.length c := hI.old 0 (by kernel_rfl)
                  exact at_guard rfl rfl (j := 4) (k := 23) rfl (by omega) hgv (move_op rfl ⟨_, rfl, e0, hg⟩)
                rcases ix with _ | ix
                · obtain rfl := (Option.some.inj hj).symm
                  have hgv : A.tmps.getD 23 undef = .bool true := hI.val hd 4 23 rfl rfl (by kernel_rfl)
                  have e0 : A.eval (.tmp 6) = .int .i64 (k : Int) := hI.old 6 (by kernel_rfl)
                  exact at_guard rfl rfl (j := 4) (k := 23) rfl (by omega) hgv (move_op rfl ⟨_, rfl, e0, hg⟩)
                rcases ix with _ | ix
                · obtain rfl := (Option.some.inj hj).symm
                  have hgv : A.tmps.getD 23 undef = .bool true := hI.val hd 4 23 rfl rfl (by kernel_rfl)
                  have e0 : A.eval (.tmp 24) = .slice (some ⟨b, off, none⟩) l.length c := hI.val hd 5 24 rfl rfl (by kernel_rfl)
                  have e1 : A.eval (.tmp 25) = .int .i64 (k : Int) := hI.val hd 6 25 rfl rfl (by kernel_rfl)
                  exact at_guard rfl rfl (j := 4) (k := 23) rfl (by omega) hgv (ixF_op okM rfl e0 e1 (by omega) ⟨_, rfl, rfl, hg⟩)
                rcases ix with _ | ix
                · obtain rfl := (Option.some.inj hj).symm
                  have hgv : A.tmps.getD 23 undef = .bool true := hI.val hd 4 23 rfl rfl (by kernel_rfl)
                  have e0 : A.eval (.tmp 26) = .pointer (some ⟨b, off + k * 3, none⟩) := hI.val hd 7 26 rfl rfl (by kernel_rfl)
                  exact at_guard rfl rfl (j := 4) (k := 23) rfl (by omega) hgv (elF_op okM rfl e0 (hg.sl.range okM (at_some (by omega))) ⟨_, rfl, rfl, hg⟩)
                rcases ix with _ | ix
                · obtain rfl := (Option.some.inj hj).symm
                  have hgv : A.tmps.getD 23 undef = .bool true := hI.val hd 4 23 rfl rfl (by kernel_rfl)
                  have e0 : A.eval (.tmp 3) = .pointer (some ⟨w.heap.size, 0, none⟩) := hI.old 3 (by kernel_rfl)
                  exact at_guard rfl rfl (j := 4) (k := 23) rfl (by omega) hgv (wp_load_row _ _ rfl _ e0 _ _ _ _ hg.row.row Try.underlying33 rfl info_m3 ⟨_, rfl, rfl, hg⟩)
                rcases ix with _ | ix
                · obtain rfl := (Option.some.inj hj).symm
                  have hgv : A.tmps.getD 23 undef = .bool true := hI.val hd 4 23 rfl rfl (by kernel_rfl)
                  have e0 : A.eval (.tmp 27) = (M3.at' l k).val := hI.val hd 8 27 rfl rfl (by kernel_rfl)
                  have e1 : A.eval (.tmp 28) = m.val := hI.val hd 9 28 rfl rfl (by kernel_rfl)
                  refine at_guard rfl rfl (j := 4) (k := 23) rfl (by omega) hgv (call_op rfl Try.func23 (by kernel_rfl) (by kernel_rfl) ?_)
                  simp only [List.map_cons, List.map_nil, e0, e1]
                  refine (byTime_impl _ _ _).mono ?_
                  rintro e W1 ⟨rfl, hb⟩
                  exact ⟨_, rfl, _, rfl, rfl, hg.below hb⟩
                rcases ix with _ | ix
                · obtain rfl := (Option.some.inj hj).symm
                  have hgv : A.tmps.getD 23 undef = .bool true := hI.val hd 4 23 rfl rfl (by kernel_rfl)
                  have e0 : A.eval (.tmp 29) = .int .i64 (ord (M3.at' l k) m) := hI.val hd 10 29 rfl rfl (by kernel_rfl)
                  exact at_guard rfl rfl (j := 4) (k := 23) rfl (by omega) hgv (bin_op (vy := .int .i64 0) rfl e0 rfl (fun w => by first | (simp [go_sem, hn]; done) | (simp [go_sem]; omega)) ⟨_, rfl, rfl, hg⟩)
                rcases ix with _ | ix
                · obtain rfl := (Option.some.inj hj).symm
                  have e0 : A.eval (.tmp 23) = .bool true := hI.val hd 4 23 rfl rfl (by kernel_rfl)
                  have e1 : A.eval (.tmp 30) = .bool true := hI.val hd 11 30 rfl rfl (by kernel_rfl)
                  exact at_op rfl rfl (pick_op rfl e0 ⟨_, rfl, e1, hg⟩)
                omega
              case done =>
                intro A W hI
                have hg := hI.g
                have s31 : A.tmps.getD 31 undef = .bool true := hI.last 12 31 rfl
                have hA := hI.frame [19, 20, 21, 22, 23, 24, 25, 26, 27, 28, 29, 30, 31] (by kernel_rfl)
                rw [hA]
                simp only [putAll, List.foldl_cons, List.foldl_nil, s31, Act.put, List.setIfInBounds_toArray, List.set_cons_zero, List.set_cons_succ]
                clear hA hI s31
                go_wp2
                go_roundw
                case rel => exact ⟨k + 1, by omega, by go_num, HK.out, hg⟩
                case measure => simp [intOf]; omega
            · have hn : ¬ ord (M3.at' l k) m ≤ 0 := by
                have := ord_le (M3.at' l k) m
                rw [hla] at this
                simpa using this
              have HI : Hid (insAt l m l.length = k) := insAt_is HS.out hkl hall (fun _ => hla)
              clear hall hla
              go_wp2_with fail
              refine region_known (by kernel_rfl) (by kernel_rfl) 0 (by decide) (by kernel_rfl) (fun _ W => Gw w (.slice (some ⟨b, off, none⟩) l.length c) l m W) [.int .i64 (k : Int), .slice (some ⟨b, off, none⟩) l.length c, .int .i64 (l.length : Int), .bool true, .bool true, .slice (some ⟨b, off, none⟩) l.length c, .int .i64 (k : Int), .pointer (some ⟨b, off + k * 3, none⟩), (M3.at' l k).val, m.val, .int .i64 (ord (M3.at' l k) m), .bool false, .bool false] hG.drew ?step ?done
              case step =>
                intro L ix o' A W hj hI hL hd
                have hin : ix < 13 := by
                  by_cases hl : ix < 13
                  · exact hl
                  · simp [hl] at hj
                have hsz : A.tmps.size = 44 := hI.size
                have hg := hI.g
                rcases ix with _ | ix
                · obtain rfl := (Option.some.inj hj).symm
                  have e0 : A.eval (.tmp 6) = .int .i64 (k : Int) := hI.old 6 (by kernel_rfl)
                  exact at_op rfl rfl (move_op rfl ⟨_, rfl, e0, hg⟩)
                rcases ix with _ | ix
                · obtain rfl := (Option.some.inj hj).symm
                  have e0 : A.eval (.tmp 0) = .slice (some ⟨b, off, none⟩) l.length c := hI.old 0 (by kernel_rfl)
                  exact at_op rfl rfl (move_op rfl ⟨_, rfl, e0, hg⟩)
                rcases ix with _ | ix
                · obtain rfl := (Option.some.inj hj).symm
                  have e0 : A.eval (.tmp 20) = .slice (some ⟨b, off, none⟩) l.length c := hI.val hd 1 20 rfl rfl (by kernel_rfl)
                  exact at_op rfl rfl (lenM_op rfl e0 ⟨_, rfl, rfl, hg⟩)
                rcases ix with _ | ix
                · obtain rfl := (Option.some.inj hj).symm
                  have e0 : A.eval (.tmp 19) = .int .i64 (k : Int) := hI.val hd 0 19 rfl rfl (by kernel_rfl)
                  have e1 : A.eval (.tmp 21) = .int .i64 (l.length : Int) := hI.val hd 2 21 rfl rfl (by kernel_rfl)
                  exact at_op rfl rfl (bin_op rfl e0 e1 (fun w => by first | (simp [go_sem]; done) | (simp [go_sem]; omega)) ⟨_, rfl, rfl, hg⟩)
                rcases ix with _ | ix
                · obtain rfl := (Option.some.inj hj).symm
                  have e0 : A.eval (.tmp 22) = .bool true := hI.val hd 3 22 rfl rfl (by kernel_rfl)
                  exact at_op rfl rfl (move_op rfl ⟨_, rfl, e0, hg⟩)
                rcases ix with _ | ix
                · obtain rfl := (Option.some.inj hj).symm
                  have hgv : A.tmps.getD 23 undef = .bool true := hI.val hd 4 23 rfl rfl (by kernel_rfl)
                  have e0 : A.eval (.tmp 0) = .slice (some ⟨b, off, none⟩) l.length c := hI.old 0 (by kernel_rfl)
                  exact at_guard rfl rfl (j := 4) (k := 23) rfl (by omega) hgv (move_op rfl ⟨_, rfl, e0, hg⟩)
                rcases ix with _ | ix
                · obtain rfl := (Option.some.inj hj).symm
                  have hgv : A.tmps.getD 23 undef = .bool true := hI.val hd 4 23 rfl rfl (by kernel_rfl)
                  have e0 : A.eval (.tmp 6) = .int .i64 (k : Int) := hI.old 6 (by kernel_rfl)
                  exact at_guard rfl rfl (j := 4) (k := 23) rfl (by omega) hgv (move_op rfl ⟨_, rfl, e0, hg⟩)
                rcases ix with _ | ix
                · obtain rfl := (Option.some.inj hj).symm
                  have hgv : A.tmps.getD 23 undef = .bool true := hI.val hd 4 23 rfl rfl (by kernel_rfl)
                  have e0 : A.eval (.tmp 24) = .slice (some ⟨b, off, none⟩) l.length c := hI.val hd 5 24 rfl rfl (by kernel_rfl)
                  have e1 : A.eval (.tmp 25) = .int .i64 (k : Int) := hI.val hd 6 25 rfl rfl (by kernel_rfl)
                  exact at_guard rfl rfl (j := 4) (k := 23) rfl (by omega) hgv (ixF_op okM rfl e0 e1 (by omega) ⟨_, rfl, rfl, hg⟩)
                rcases ix with _ | ix
                · obtain rfl := (Option.some.inj hj).symm
                  have hgv : A.tmps.getD 23 undef = .bool true := hI.val hd 4 23 rfl rfl (by kernel_rfl)
                  have e0 : A.eval (.tmp 26) = .pointer (some ⟨b, off + k * 3, none⟩) := hI.val hd 7 26 rfl rfl (by kernel_rfl)
                  exact at_guard rfl rfl (j := 4) (k := 23) rfl (by omega) hgv (elF_op okM rfl e0 (hg.sl.range okM (at_some (by omega))) ⟨_, rfl, rfl, hg⟩)
                rcases ix with _ | ix
                · obtain rfl := (Option.some.inj hj).symm
                  have hgv : A.tmps.getD 23 undef = .bool true := hI.val hd 4 23 rfl rfl (by kernel_rfl)
                  have e0 : A.eval (.tmp 3) = .pointer (some ⟨w.heap.size, 0, none⟩) := hI.old 3 (by kernel_rfl)
                  exact at_guard rfl rfl (j := 4) (k := 23) rfl (by omega) hgv (wp_load_row _ _ rfl _ e0 _ _ _ _ hg.row.row Try.underlying33 rfl info_m3 ⟨_, rfl, rfl, hg⟩)
                rcases ix with _ | ix
                · obtain rfl := (Option.some.inj hj).symm
                  have hgv : A.tmps.getD 23 undef = .bool true := hI.val hd 4 23 rfl rfl (by kernel_rfl)
                  have e0 : A.eval (.tmp 27) = (M3.at' l k).val := hI.val hd 8 27 rfl rfl (by kernel_rfl)
                  have e1 : A.eval (.tmp 28) = m.val := hI.val hd 9 28 rfl rfl (by kernel_rfl)
                  refine at_guard rfl rfl (j := 4) (k := 23) rfl (by omega) hgv (call_op rfl Try.func23 (by kernel_rfl) (by kernel_rfl) ?_)
                  simp only [List.map_cons, List.map_nil, e0, e1]
                  refine (byTime_impl _ _ _).mono ?_
                  rintro e W1 ⟨rfl, hb⟩
                  exact ⟨_, rfl, _, rfl, rfl, hg.below hb⟩
                rcases ix with _ | ix
                · obtain rfl := (Option.some.inj hj).symm
                  have hgv : A.tmps.getD 23 undef = .bool true := hI.val hd 4 23 rfl rfl (by kernel_rfl)
                  have e0 : A.eval (.tmp 29) = .int .i64 (ord (M3.at' l k) m) := hI.val hd 10 29 rfl rfl (by kernel_rfl)
                  exact at_guard rfl rfl (j := 4) (k := 23) rfl (by omega) hgv (bin_op (vy := .int .i64 0) rfl e0 rfl (fun w => by first | (simp [go_sem, hn]; done) | (simp [go_sem]; omega)) ⟨_, rfl, rfl, hg⟩)
                rcases ix with _ | ix
                · obtain rfl := (Option.some.inj hj).symm
                  have e0 : A.eval (.tmp 23) = .bool true := hI.val hd 4 23 rfl rfl (by kernel_rfl)
                  have e1 : A.eval (.tmp 30) = .bool false := hI.val hd 11 30 rfl rfl (by kernel_rfl)
                  exact at_op rfl rfl (pick_op rfl e0 ⟨_, rfl, e1, hg⟩)
                omega
              case done =>
                intro A W hI
                have hg := hI.g
                have s31 : A.tmps.getD 31 undef = .bool false := hI.last 12 31 rfl
                have hA := hI.frame [19, 20, 21, 22, 23, 24, 25, 26, 27, 28, 29, 30, 31] (by kernel_rfl)
                rw [hA]
                simp only [putAll, List.foldl_cons, List.foldl_nil, s31, Act.put, List.setIfInBounds_toArray, List.set_cons_zero, List.set_cons_succ]
                clear hA hI s31
                go_wp2_with fail
                refine region_by (by kernel_rfl) (by kernel_rfl) (fun W => Gw w (.slice (some ⟨b, off, none⟩) l.length c) l m W) (kinds [KIs (.slice (some ⟨b, off, none⟩) l.length c), KIs (.int .i64 (k : Int)), KSl (l.take k), KIs (m.val), KSl [m], KIs (.slice (some ⟨b, off, none⟩) l.length c), KIs (.int .i64 (k : Int)), KSl (l.drop k), KThr (l.take k) [m] (l.drop k), KOwn w.heap.size (l.take k ++ [m] ++ l.drop k), KOwn w.heap.size (l.take k ++ [m] ++ l.drop k), KIs (.bool true)]) (Rel fun _ => False) (by kernel_rfl) (kinds_mono ?mono) hg.drew ?step ?done
                case mono =>
                  intro K hK
                  simp only [List.mem_cons, List.not_mem_nil, or_false] at hK
                  rcases hK with rfl | rfl | rfl | rfl | rfl | rfl | rfl | rfl | rfl | rfl | rfl | rfl
                  all_goals first | exact bears_is _ _ | exact bears_slF _ | exact bears_thr _ _ _ | exact bears_ownF _ _
                case step =>
                  intro L ix o' A W hj hI hL hd
                  have hin : ix < 12 := by
                    by_cases hl : ix < 12
                    · exact hl
                    · simp [hl] at hj
                  have hsz : A.tmps.size = 44 := hI.size
                  have hg := hI.g
                  rcases ix with _ | ix
                  · obtain rfl := (Option.some.inj hj).symm
                    have e0 : A.eval (.tmp 0) = .slice (some ⟨b, off, none⟩) l.length c := hI.old 0 (by kernel_rfl)
                    exact at_op rfl rfl (move_op rfl ⟨_, rfl, e0, hg, Rel.refl _ _⟩)
                  rcases ix with _ | ix
                  · obtain rfl := (Option.some.inj hj).symm
                    have e0 : A.eval (.tmp 6) = .int .i64 (k : Int) := hI.old 6 (by kernel_rfl)
                    exact at_op rfl rfl (move_op rfl ⟨_, rfl, e0, hg, Rel.refl _ _⟩)
                  rcases ix with _ | ix
                  · obtain rfl := (Option.some.inj hj).symm
                    have e0 : A.eval (.tmp 34) = .slice (some ⟨b, off, none⟩) l.length c := hI.get hd 0 34 rfl (by kernel_rfl)
                    have e1 : A.eval (.tmp 35) = .int .i64 (k : Int) := hI.get hd 1 35 rfl (by kernel_rfl)
                    exact at_op rfl rfl (takeS_op rfl e0 e1 hkl hg.sl (fun v' hv' => ⟨_, rfl, hv', hg, Rel.refl _ _⟩))
                  rcases ix with _ | ix
                  · obtain rfl := (Option.some.inj hj).symm
                    have e0 : A.eval (.tmp 3) = .pointer (some ⟨w.heap.size, 0, none⟩) := hI.old 3 (by kernel_rfl)
                    exact at_op rfl rfl (wp_load_row _ _ rfl _ e0 _ _ _ _ hg.row.row Try.underlying33 rfl info_m3 ⟨_, rfl, rfl, hg, Rel.refl _ _⟩)
                  rcases ix with _ | ix
                  · obtain rfl := (Option.some.inj hj).symm
                    have e0 : A.eval (.tmp 37) = m.val := hI.get hd 3 37 rfl (by kernel_rfl)
                    refine at_op rfl rfl (oneF_op okM (e := m) rfl e0 (fill1 m) (fun W1 ho1 hb1 => ⟨_, rfl, ho1.sl okM, hg.below hb1, Rel.below hb1⟩))
                  rcases ix with _ | ix
                  · obtain rfl := (Option.some.inj hj).symm
                    have e0 : A.eval (.tmp 0) = .slice (some ⟨b, off, none⟩) l.length c := hI.old 0 (by kernel_rfl)
                    exact at_op rfl rfl (move_op rfl ⟨_, rfl, e0, hg, Rel.refl _ _⟩)
                  rcases ix with _ | ix
                  · obtain rfl := (Option.some.inj hj).symm
                    have e0 : A.eval (.tmp 6) = .int .i64 (k : Int) := hI.old 6 (by kernel_rfl)
                    exact at_op rfl rfl (move_op rfl ⟨_, rfl, e0, hg, Rel.refl _ _⟩)
                  rcases ix with _ | ix
                  · obtain rfl := (Option.some.inj hj).symm
                    have e0 : A.eval (.tmp 39) = .slice (some ⟨b, off, none⟩) l.length c := hI.get hd 5 39 rfl (by kernel_rfl)
                    have e1 : A.eval (.tmp 40) = .int .i64 (k : Int) := hI.get hd 6 40 rfl (by kernel_rfl)
                    exact at_op rfl rfl (dropS_op rfl e0 e1 hkl hg.sl (fun v' hv' => ⟨_, rfl, hv', hg, Rel.refl _ _⟩))
                  rcases ix with _ | ix
                  · obtain rfl := (Option.some.inj hj).symm
                    have e0 : (KSl (l.take k)) (A.eval (.tmp 36)) W := hI.get hd 2 36 rfl (by kernel_rfl)
                    have e1 : (KSl [m]) (A.eval (.tmp 38)) W := hI.get hd 4 38 rfl (by kernel_rfl)
                    have e2 : (KSl (l.drop k)) (A.eval (.tmp 41)) W := hI.get hd 7 41 rfl (by kernel_rfl)
                    refine at_op rfl rfl (lit3_op rfl e0 e1 e2 (fun W1 h3 hb1 => ⟨_, rfl, h3, hg.below hb1, Rel.below hb1⟩))
                  rcases ix with _ | ix
                  · obtain rfl := (Option.some.inj hj).symm
                    have e0 : (KThr (l.take k) [m] (l.drop k)) (A.eval (.tmp 42)) W := hI.get hd 8 42 rfl (by kernel_rfl)
                    obtain ⟨q, v0, v1, v2, eq, c0, c1, c2, s0, s1, s2⟩ := e0
                    refine at_op rfl rfl (call_op rfl Try.func28 (by kernel_rfl) (by kernel_rfl) ?_)
                    simp only [List.map_cons, List.map_nil, eq]
                    refine (concat3 q v0 v1 v2 _ _ _ _ c0 c1 c2 s0 s1 s2 (by simp <;> omega) (by simp) (by simp <;> omega)).mono ?_
                    rintro e W1 ⟨v', rfl, ho, hb⟩
                    exact ⟨_, rfl, _, rfl, ho.mono hg.bel.size, hg.below hb, Rel.below hb⟩
                  rcases ix with _ | ix
                  · obtain rfl := (Option.some.inj hj).symm
                    have e0 : (KOwn w.heap.size (l.take k ++ [m] ++ l.drop k)) (A.eval (.tmp 43)) W := hI.get hd 9 43 rfl (by kernel_rfl)
                    exact at_op rfl rfl (assign_op rfl ⟨_, rfl, e0, hg, Rel.refl _ _⟩)
                  rcases ix with _ | ix
                  · obtain rfl := (Option.some.inj hj).symm
                    exact at_op rfl rfl (assign_op rfl ⟨_, rfl, rfl, hg, Rel.refl _ _⟩)
                  omega
                case done =>
                  intro A W hI
                  have hg := hI.g
                  obtain ⟨vr, hvr⟩ : ∃ vr, A.tmps.getD 4 undef = vr := ⟨_, rfl⟩
                  have hq : KOwn w.heap.size (l.take k ++ [m] ++ l.drop k) (A.tmps.getD 4 undef) W := hI.slot 10 4 rfl rfl
                  have s5 : A.tmps.getD 5 undef = .bool true := hI.slot 11 5 rfl rfl
                  rw [hvr] at hq
                  have hA := hI.frame [34, 35, 36, 37, 38, 39, 40, 41, 42, 43, 4, 5] (by kernel_rfl)
                  rw [hA]
                  simp only [putAll, List.foldl_cons, List.foldl_nil, hvr, s5, Act.put, List.setIfInBounds_toArray, List.set_cons_zero, List.set_cons_succ]
                  clear hA hI hvr s5
                  go_wp2
                  go_ret2
                  rw [hr.out]
                  exact ⟨_, rfl, by unfold withM; rw [HI.out]; exact hq, hg.bel⟩
          · obtain rfl : k = l.length := by omega
            have HI : Hid (insAt l m l.length = l.length) := insAt_is HS.out hkl hall (fun hh => by omega)
            clear hall
            go_wp2_with fail
            refine region_known (by kernel_rfl) (by kernel_rfl) 0 (by decide) (by kernel_rfl) (fun _ W => Gw w (.slice a l.length c) l m W) [.int .i64 (l.length : Int), .slice a l.length c, .int .i64 (l.length : Int), .bool false, .bool false, undef, undef, undef, undef, undef, undef, undef, .bool false] hG.drew ?step ?done
            case step =>
              intro L ix o' A W hj hI hL hd
              have hin : ix < 13 := by
                by_cases hl : ix < 13
                · exact hl
                · simp [hl] at hj
              have hsz : A.tmps.size = 44 := hI.size
              have hg := hI.g
              rcases ix with _ | ix
              · obtain rfl := (Option.some.inj hj).symm
                have e0 : A.eval (.tmp 6) = .int .i64 (l.length : Int) := hI.old 6 (by kernel_rfl)
                exact at_op rfl rfl (move_op rfl ⟨_, rfl, e0, hg⟩)
              rcases ix with _ | ix
              · obtain rfl := (Option.some.inj hj).symm
                have e0 : A.eval (.tmp 0) = .slice a l.length c := hI.old 0 (by kernel_rfl)
                exact at_op rfl rfl (move_op rfl ⟨_, rfl, e0, hg⟩)
              rcases ix with _ | ix
              · obtain rfl := (Option.some.inj hj).symm
                have e0 : A.eval (.tmp 20) = .slice a l.length c := hI.val hd 1 20 rfl rfl (by kernel_rfl)
                exact at_op rfl rfl (lenM_op rfl e0 ⟨_, rfl, rfl, hg⟩)
              rcases ix with _ | ix
              · obtain rfl := (Option.some.inj hj).symm
                have e0 : A.eval (.tmp 19) = .int .i64 (l.length : Int) := hI.val hd 0 19 rfl rfl (by kernel_rfl)
                have e1 : A.eval (.tmp 21) = .int .i64 (l.length : Int) := hI.val hd 2 21 rfl rfl (by kernel_rfl)
                exact at_op rfl rfl (bin_op rfl e0 e1 (fun w => by first | (simp [go_sem]; done) | (simp [go_sem]; omega)) ⟨_, rfl, rfl, hg⟩)
              rcases ix with _ | ix
              · obtain rfl := (Option.some.inj hj).symm
                have e0 : A.eval (.tmp 22) = .bool false := hI.val hd 3 22 rfl rfl (by kernel_rfl)
                exact at_op rfl rfl (move_op rfl ⟨_, rfl, e0, hg⟩)
              rcases ix with _ | ix
              · obtain rfl := (Option.some.inj hj).symm
                have hgv : A.tmps.getD 23 undef = .bool false := hI.val hd 4 23 rfl rfl (by kernel_rfl)
                exact at_skip rfl rfl (j := 4) (k := 23) rfl (by rw [hgv]; simp [undef]) ⟨_, rfl, rfl, hg⟩
              rcases ix with _ | ix
              · obtain rfl := (Option.some.inj hj).symm
                have hgv : A.tmps.getD 23 undef = .bool false := hI.val hd 4 23 rfl rfl (by kernel_rfl)
                exact at_skip rfl rfl (j := 4) (k := 23) rfl (by rw [hgv]; simp [undef]) ⟨_, rfl, rfl, hg⟩
              rcases ix with _ | ix
              · obtain rfl := (Option.some.inj hj).symm
                have hgv : A.tmps.getD 23 undef = .bool false := hI.val hd 4 23 rfl rfl (by kernel_rfl)
                exact at_skip rfl rfl (j := 4) (k := 23) rfl (by rw [hgv]; simp [undef]) ⟨_, rfl, rfl, hg⟩
              rcases ix with _ | ix
              · obtain rfl := (Option.some.inj hj).symm
                have hgv : A.tmps.getD 23 undef = .bool false := hI.val hd 4 23 rfl rfl (by kernel_rfl)
                exact at_skip rfl rfl (j := 4) (k := 23) rfl (by rw [hgv]; simp [undef]) ⟨_, rfl, rfl, hg⟩
              rcases ix with _ | ix
              · obtain rfl := (Option.some.inj hj).symm
                have hgv : A.tmps.getD 23 undef = .bool false := hI.val hd 4 23 rfl rfl (by kernel_rfl)
                exact at_skip rfl rfl (j := 4) (k := 23) rfl (by rw [hgv]; simp [undef]) ⟨_, rfl, rfl, hg⟩
              rcases ix with _ | ix
              · obtain rfl := (Option.some.inj hj).symm
                have hgv : A.tmps.getD 23 undef = .bool false := hI.val hd 4 23 rfl rfl (by kernel_rfl)
                exact at_skip rfl rfl (j := 4) (k := 23) rfl (by rw [hgv]; simp [undef]) ⟨_, rfl, rfl, hg⟩
              rcases ix with _ | ix
              · obtain rfl := (Option.some.inj hj).symm
                have hgv : A.tmps.getD 23 undef = .bool false := hI.val hd 4 23 rfl rfl (by kernel_rfl)
                exact at_skip rfl rfl (j := 4) (k := 23) rfl (by rw [hgv]; simp [undef]) ⟨_, rfl, rfl, hg⟩
              rcases ix with _ | ix
              · obtain rfl := (Option.some.inj hj).symm
                have e0 : A.eval (.tmp 23) = .bool false := hI.val hd 4 23 rfl rfl (by kernel_rfl)
                have e1 : A.eval (.tmp 30) = undef := hI.val hd 11 30 rfl rfl (by kernel_rfl)
                exact at_op rfl rfl (pick_op rfl e0 ⟨_, rfl, rfl, hg⟩)
              omega
            case done =>
              intro A W hI
              have hg := hI.g
              have s31 : A.tmps.getD 31 undef = .bool false := hI.last 12 31 rfl
              have hA := hI.frame [19, 20, 21, 22, 23, 24, 25, 26, 27, 28, 29, 30, 31] (by kernel_rfl)
              rw [hA]
              simp only [putAll, List.foldl_cons, List.foldl_nil, s31, Act.put, List.setIfInBounds_toArray, List.set_cons_zero, List.set_cons_succ]
              clear hA hI s31
              go_wp2_with fail
              refine region_by (by kernel_rfl) (by kernel_rfl) (fun W => Gw w (.slice a l.length c) l m W) (kinds [KIs (.slice a l.length c), KIs (.int .i64 (l.length : Int)), KSl (l.take l.length), KIs (m.val), KSl [m], KIs (.slice a l.length c), KIs (.int .i64 (l.length : Int)), KSl (l.drop l.length), KThr (l.take l.length) [m] (l.drop l.length), KOwn w.heap.size (l.take l.length ++ [m] ++ l.drop l.length), KOwn w.heap.size (l.take l.length ++ [m] ++ l.drop l.length), KIs (.bool true)]) (Rel fun _ => False) (by kernel_rfl) (kinds_mono ?mono) hg.drew ?step ?done
              case mono =>
                intro K hK
                simp only [List.mem_cons, List.not_mem_nil, or_false] at hK
                rcases hK with rfl | rfl | rfl | rfl | rfl | rfl | rfl | rfl | rfl | rfl | rfl | rfl
                all_goals first | exact bears_is _ _ | exact bears_slF _ | exact bears_thr _ _ _ | exact bears_ownF _ _
              case step =>
                intro L ix o' A W hj hI hL hd
                have hin : ix < 12 := by
                  by_cases hl : ix < 12
                  · exact hl
                  · simp [hl] at hj
                have hsz : A.tmps.size = 44 := hI.size
                have hg := hI.g
                rcases ix with _ | ix
                · obtain rfl := (Option.some.inj hj).symm
                  have e0 : A.eval (.tmp 0) = .slice a l.length c := hI.old 0 (by kernel_rfl)
                  exact at_op rfl rfl (move_op rfl ⟨_, rfl, e0, hg, Rel.refl _ _⟩)
                rcases ix with _ | ix
                · obtain rfl := (Option.some.inj hj).symm
                  have e0 : A.eval (.tmp 6) = .int .i64 (l.length : Int) := hI.old 6 (by kernel_rfl)
                  exact at_op rfl rfl (move_op rfl ⟨_, rfl, e0, hg, Rel.refl _ _⟩)
                rcases ix with _ | ix
                · obtain rfl := (Option.some.inj hj).symm
                  have e0 : A.eval (.tmp 34) = .slice a l.length c := hI.get hd 0 34 rfl (by kernel_rfl)
                  have e1 : A.eval (.tmp 35) = .int .i64 (l.length : Int) := hI.get hd 1 35 rfl (by kernel_rfl)
                  exact at_op rfl rfl (takeS_op rfl e0 e1 hkl hg.sl (fun v' hv' => ⟨_, rfl, hv', hg, Rel.refl _ _⟩))
                rcases ix with _ | ix
                · obtain rfl := (Option.some.inj hj).symm
                  have e0 : A.eval (.tmp 3) = .pointer (some ⟨w.heap.size, 0, none⟩) := hI.old 3 (by kernel_rfl)
                  exact at_op rfl rfl (wp_load_row _ _ rfl _ e0 _ _ _ _ hg.row.row Try.underlying33 rfl info_m3 ⟨_, rfl, rfl, hg, Rel.refl _ _⟩)
                rcases ix with _ | ix
                · obtain rfl := (Option.some.inj hj).symm
                  have e0 : A.eval (.tmp 37) = m.val := hI.get hd 3 37 rfl (by kernel_rfl)
                  refine at_op rfl rfl (oneF_op okM (e := m) rfl e0 (fill1 m) (fun W1 ho1 hb1 => ⟨_, rfl, ho1.sl okM, hg.below hb1, Rel.below hb1⟩))
                rcases ix with _ | ix
                · obtain rfl := (Option.some.inj hj).symm
                  have e0 : A.eval (.tmp 0) = .slice a l.length c := hI.old 0 (by kernel_rfl)
                  exact at_op rfl rfl (move_op rfl ⟨_, rfl, e0, hg, Rel.refl _ _⟩)
                rcases ix with _ | ix
                · obtain rfl := (Option.some.inj hj).symm
                  have e0 : A.eval (.tmp 6) = .int .i64 (l.length : Int) := hI.old 6 (by kernel_rfl)
                  exact at_op rfl rfl (move_op rfl ⟨_, rfl, e0, hg, Rel.refl _ _⟩)
                rcases ix with _ | ix
                · obtain rfl := (Option.some.inj hj).symm
                  have e0 : A.eval (.tmp 39) = .slice a l.length c := hI.get hd 5 39 rfl (by kernel_rfl)
                  have e1 : A.eval (.tmp 40) = .int .i64 (l.length : Int) := hI.get hd 6 40 rfl (by kernel_rfl)
                  exact at_op rfl rfl (dropS_op rfl e0 e1 hkl hg.sl (fun v' hv' => ⟨_, rfl, hv', hg, Rel.refl _ _⟩))
                rcases ix with _ | ix
                · obtain rfl := (Option.some.inj hj).symm
                  have e0 : (KSl (l.take l.length)) (A.eval (.tmp 36)) W := hI.get hd 2 36 rfl (by kernel_rfl)
                  have e1 : (KSl [m]) (A.eval (.tmp 38)) W := hI.get hd 4 38 rfl (by kernel_rfl)
                  have e2 : (KSl (l.drop l.length)) (A.eval (.tmp 41)) W := hI.get hd 7 41 rfl (by kernel_rfl)
                  refine at_op rfl rfl (lit3_op rfl e0 e1 e2 (fun W1 h3 hb1 => ⟨_, rfl, h3, hg.below hb1, Rel.below hb1⟩))
                rcases ix with _ | ix
                · obtain rfl := (Option.some.inj hj).symm
                  have e0 : (KThr (l.take l.length) [m] (l.drop l.length)) (A.eval (.tmp 42)) W := hI.get hd 8 42 rfl (by kernel_rfl)
                  obtain ⟨q, v0, v1, v2, eq, c0, c1, c2, s0, s1, s2⟩ := e0
                  refine at_op rfl rfl (call_op rfl Try.func28 (by kernel_rfl) (by kernel_rfl) ?_)
                  simp only [List.map_cons, List.map_nil, eq]
                  refine (concat3 q v0 v1 v2 _ _ _ _ c0 c1 c2 s0 s1 s2 (by simp <;> omega) (by simp) (by simp <;> omega)).mono ?_
                  rintro e W1 ⟨v', rfl, ho, hb⟩
                  exact ⟨_, rfl, _, rfl, ho.mono hg.bel.size, hg.below hb, Rel.below hb⟩
                rcases ix with _ | ix
                · obtain rfl := (Option.some.inj hj).symm
                  have e0 : (KOwn w.heap.size (l.take l.length ++ [m] ++ l.drop l.length)) (A.eval (.tmp 43)) W := hI.get hd 9 43 rfl (by kernel_rfl)
                  exact at_op rfl rfl (assign_op rfl ⟨_, rfl, e0, hg, Rel.refl _ _⟩)
                rcases ix with _ | ix
                · obtain rfl := (Option.some.inj hj).symm
                  exact at_op rfl rfl (assign_op rfl ⟨_, rfl, rfl, hg, Rel.refl _ _⟩)
                omega
              case done =>
                intro A W hI
                have hg := hI.g
                obtain ⟨vr, hvr⟩ : ∃ vr, A.tmps.getD 4 undef = vr := ⟨_, rfl⟩
                have hq : KOwn w.heap.size (l.take l.length ++ [m] ++ l.drop l.length) (A.tmps.getD 4 undef) W := hI.slot 10 4 rfl rfl
                have s5 : A.tmps.getD 5 undef = .bool true := hI.slot 11 5 rfl rfl
                rw [hvr] at hq
                have hA := hI.frame [34, 35, 36, 37, 38, 39, 40, 41, 42, 43, 4, 5] (by kernel_rfl)
                rw [hA]
                simp only [putAll, List.foldl_cons, List.foldl_nil, hvr, s5, Act.put, List.setIfInBounds_toArray, List.set_cons_zero, List.set_cons_succ]
                clear hA hI hvr s5
                go_wp2
                go_ret2
                rw [hr.out]
                exact ⟨_, rfl, by unfold withM; rw [HI.out]; exact hq, hg.bel⟩
end Go.Proofs.Ytlhmhhcjnildcaa.Mem
