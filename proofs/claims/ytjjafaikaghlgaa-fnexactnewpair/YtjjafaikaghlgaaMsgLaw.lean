/-
  The laws' own helpers over lists of messages: a copy, whether two are alike, how great one is, marks that are set and found again.
-/
import Derived.Test.YtjjafaikaghlgaaInb
import Derived.Test.YtjjafaikaghlgaaEx
namespace Go.Proofs.Ytjjafaikaghlgaa.Mem
open Go.ChangeShapes Go.WideShapes Go.RowKit Base Num Slc Slf Rw Tmr Reg Ex
set_option linter.unusedVariables false
set_option linter.unusedSimpArgs false
set_option maxRecDepth 20000

/-- How the laws' own messages lie. -/
def fL : Fl M3 := ⟨80, 38, 3, 24, M3.cs, M3.nul, M3.val⟩
theorem okL : fL.Ok := ⟨fun _ => rfl, by decide, fun _ => rfl, by kernel_rfl, by kernel_rfl, by decide, by decide, fun _ => rfl, fun m w b q h => run_loadVar_mid w b q _ m.cs _ h Try.underlying80 rfl (by kernel_rfl)⟩
theorem own_there {α : Type} {f : Fl α} (hf : f.Ok) {base g n cap i : Nat} {w : World} {l : List α} {e : α} (h : OwnF f base w (.slice (some ⟨g, 0, none⟩) n cap) l) (hi : l[i]? = some e) : w.there g (i * f.n) f.n := fun j hj => by
  have hc := h.cellAt hf hi hj
  have hfr := h.free (i * f.n + j)
  refine ⟨?_, hfr⟩
  rw [hc]
  have := hf.len e
  rw [List.getElem?_eq_getElem (by omega)]
  rfl
section
variable {f : Fl M3} {ops : Array Oper} {rest : List Oper} {o : Oper} {a : Act} {w : World} {Q : Exit → Act → World → Prop} {x y : Operand} {g base n cap i j q : Nat} {l : List M3} {e e' : M3} {z : Int}
/-- A number goes into an element of a list of one's own. -/
theorem stE (hf : f.Ok) (hn : f.n = 3) (hgd : o.guard = none) (ho : o.op = .store 2 x y) (hx : a.eval x = .pointer (some ⟨g, q, none⟩)) (hy : a.eval y = .int .i64 z) (hown : OwnF f base w (.slice (some ⟨g, 0, none⟩) n cap) l) (hi : l[i]? = some e) (hq : q = i * f.n + j) (hj : j < 3)
    (hset : (f.F e).set j (.int .i64 z) = f.F e') (h : ∀ w', OwnF f base w' (.slice (some ⟨g, 0, none⟩) n cap) (l.set i e') → w.grownBy w' (some g) → wpList Try.prog ops Q rest (a.put o.dst undef) w') : wpList Try.prog ops Q (o :: rest) a w :=
  wpList_plain hgd fun _ hK => by
    rw [hn] at hq
    subst hq
    have ht : w.there g (i * 3 + j) [Value.int .i64 z].length := fun k hk => by
      have hk0 : k = 0 := by simpa using hk
      subst hk0
      have := own_there hf hown hi j (by omega)
      rwa [hn] at this
    have hs := hown.store hf hi (j := j) (by omega) hset
    rw [hn] at hs
    unfold Oper.wp execOp
    simp only [ho, hx, hy, Instr.storeAt, Instr.sureAddr, Sem.run_bind, Sem.run_pure, Result.andThen_ok, run_store_in (P := Try.prog) w g (i * 3 + j) 2 (.int .i64 z) [.int .i64 z] rfl ht (by kernel_rfl) rfl]
    exact hK _ _ (h _ hs.1 hs.2)
/-- An element goes into its place. -/
theorem stF (hf : f.Ok) (hn : f.n = 3) (hF : f.F = M3.cs) (hgd : o.guard = none) (ho : o.op = .store f.T x y) (hx : a.eval x = .pointer (some ⟨g, q, none⟩)) (hy : a.eval y = e'.val) (hown : OwnF f base w (.slice (some ⟨g, 0, none⟩) n cap) l) (hi : l[i]? = some e) (hq : q = i * 3)
    (h : ∀ w', OwnF f base w' (.slice (some ⟨g, 0, none⟩) n cap) (l.set i e') → w.grownBy w' (some g) → wpList Try.prog ops Q rest (a.put o.dst undef) w') : wpList Try.prog ops Q (o :: rest) a w :=
  wpList_plain hgd fun _ hK => by
    subst hq
    have ht : w.there g (i * 3) e'.cs.length := by
      have := own_there hf hown hi
      rwa [hn] at this
    have hil : i < l.length := (List.getElem?_eq_some_iff.1 hi).1
    have s0 := hown.store hf hi (j := 0) (x' := ⟨e'.t, e.k, e.v⟩) (u := .int .i64 e'.t) (by omega) (by rw [hF]; rfl)
    have s1 := s0.1.store hf (i := i) (x := ⟨e'.t, e.k, e.v⟩) (by simp [hil]) (j := 1) (x' := ⟨e'.t, e'.k, e.v⟩) (u := .int .i64 e'.k) (by omega) (by rw [hF]; rfl)
    have s2 := s1.1.store hf (i := i) (x := ⟨e'.t, e'.k, e.v⟩) (by simp [hil]) (j := 2) (x' := e') (u := .int .i64 e'.v) (by omega) (by rw [hF]; rfl)
    rw [hn] at s0 s1 s2
    have hset : ((l.set i ⟨e'.t, e.k, e.v⟩).set i ⟨e'.t, e'.k, e.v⟩).set i e' = l.set i e' := by simp
    have hsz : (Try.prog.info? f.T).map (·.size) = some e'.cs.length := by have := size_info hf e'; rwa [hF] at this
    unfold Oper.wp execOp
    simp only [ho, hx, hy, Instr.storeAt, Instr.sureAddr, Sem.run_bind, Sem.run_pure, Result.andThen_ok, run_store_in (P := Try.prog) w g (i * 3) f.T e'.val e'.cs rfl ht hsz rfl]
    exact hK _ _ (h _ (hset ▸ s2.1) (grown_trans (grown_trans s0.2 s1.2) s2.2))
end
theorem szMsgS_any (v : Value) (l : List M3) (left : Int) (w : World) (h : SlF fL w v l) (hl : 0 ≤ left ∧ left ≤ 1048576) :
    Calls Try.prog 10 #[v, .int .i64 left] w fun e w' => e = .returned (.int .i64 (if left < l.length then -1 else left - l.length)) ∧ w' = w := by
  obtain ⟨a, cap, rfl, -, hlc, hcm, -⟩ := h
  unfold maxLen at hcm
  by_cases hh : left < (l.length : Int)
  · rw [if_pos hh]
    go_enter Try.func10, Try.ntmps10
    go_wp2
    go_ret
    exact ⟨rfl, rfl⟩
  · rw [if_neg hh]
    go_enter Try.func10, Try.ntmps10
    go_wp2
    go_ret
    exact ⟨rfl, rfl⟩
theorem toMsg_any (m : M3) (w : World) : Calls Try.prog 40 #[m.val] w fun e w' => e = .returned m.val ∧ Below w.heap.size w w' := by
  obtain ⟨t, k, v⟩ := m
  have hB : Hid (Below w.heap.size w ((((w.alloc (.cells #[.int .i64 t, .int .i64 k, .int .i64 v] 80)).alloc (.cells #[.int .i64 t, .int .i64 k, .int .i64 v] 78)).alloc (.cells #[.int .i64 t, .int .i64 k, .int .i64 v] 78)))) := (((Below.refl _ w).alloc (Nat.le_refl _) _).alloc (by simp) _).alloc (by simp; omega) _
  rw [m3_val]
  go_enter Try.func40, Try.ntmps40
  go_wp2
  exact ret_row rfl rfl (((Row.new1 (w := w.alloc _) (n := w.heap.size + 1) (by simp) _ _).alloc _)) Try.underlying78 rfl info_m3 rfl ⟨rfl, hB.out⟩
theorem set3_step (l : List M3) (k : Nat) (h : k < l.length) : (l.take k ++ List.replicate (l.length - k) M3.nul).set k (M3.at' l k) = l.take (k + 1) ++ List.replicate (l.length - (k + 1)) M3.nul := by
  have e : l.length - k = (l.length - (k + 1)) + 1 := by omega
  rw [e, List.replicate_succ, List.set_append_right _ _ (by simp; omega), List.take_succ_eq_append_getElem h]
  have h1 : (l.take k).length = k := by simp; omega
  have h2 : M3.at' l k = l[k] := by
    unfold M3.at'
    simp [List.getD_eq_getElem?_getD, List.getElem?_eq_getElem h]
  rw [h1, Nat.sub_self, List.set_cons_zero, h2, List.append_assoc]
  rfl
theorem toMsgS_any (v : Value) (l : List M3) (w : World) (h : SlF fL w v l) (hb : l.length ≤ 4000000) :
    Calls Try.prog 13 #[v] w fun e w' => ∃ v', e = .returned v' ∧ OwnF fM w.heap.size w' v' l ∧ Below w.heap.size w w' := by
  have HS : Hid (SlF fL w v l) := h
  obtain ⟨a, cap, rfl, -, hlc, hcm, -⟩ := h
  unfold maxLen at hcm
  go_enter Try.func13, Try.ntmps13
  go_wp2_with (at_make; refine makeF okM rfl (.tmp 6) (.tmp 6) rfl w.heap.size l.length _ rfl rfl rfl (by omega) (Nat.le_refl _) ?_; intro w1 ho hg; have HO : Hid (OwnF fM w.heap.size w1 (.slice (some ⟨w.heap.size, 0, none⟩) l.length l.length) (l.take 0 ++ List.replicate (l.length - 0) M3.nul) ∧ Below w.heap.size w w1) := ⟨by rw [show l.take 0 ++ List.replicate (l.length - 0) M3.nul = List.replicate l.length fM.z by simp [fM]]; exact ho, (Below.refl _ _).grown hg (Nat.le_refl _) (by simp)⟩; clear ho hg)
  go_loopw [4] (fun i wr => ∃ k : Nat, k ≤ l.length ∧ i = .int .i64 k ∧ OwnF fM w.heap.size wr (.slice (some ⟨w.heap.size, 0, none⟩) l.length l.length) (l.take k ++ List.replicate (l.length - k) M3.nul) ∧ Below w.heap.size w wr) (fun i _ => l.length - (intOf i).toNat)
  case atStart => exact ⟨0, Nat.zero_le _, rfl, HO.out.1, HO.out.2⟩
  case round =>
    obtain ⟨k, hk, rfl, ho, hbw⟩ := hrel
    have HO2 : Hid (OwnF fM w.heap.size wr (.slice (some ⟨w.heap.size, 0, none⟩) l.length l.length) (l.take k ++ List.replicate (l.length - k) M3.nul)) := ho
    have HB : Hid (Below w.heap.size w wr) := hbw
    by_cases hlt : k < l.length
    · obtain ⟨b, off, c, e, -, -, -⟩ := HS.out.shape (by omega)
      simp only [Value.slice.injEq] at e
      obtain ⟨rfl, -, rfl⟩ := e
      have hsl := HS.out.below hbw
      clear ho hbw
      go_wp2_with (first
        | (refine ixF okL (r := k) rfl rfl rfl rfl hlt ?_)
        | (refine elF okL rfl rfl rfl (hsl.range okL (at_some hlt)) ?_)
        | (go_at_call 40; refine (toMsg_any (M3.at' l k) _).mono ?_; rintro e w2 ⟨rfl, hb2⟩; have ho2 := HO2.out.below hb2; have hB2 := HB.out.trans (hb2.mono HB.out.size))
        | (refine ixF okM (r := k) rfl rfl rfl rfl hlt ?_)
        | (refine stF okM rfl rfl (e' := M3.at' l k) rfl rfl rfl rfl ho2 (at_some (by simp; omega)) (Nat.zero_add _) ?_; rintro w3 ho3 hg3; have hB3 := hB2.grown hg3 hB2.size (by intro q hq; cases hq; exact Nat.le_refl _)))
      go_roundw
      case rel => exact ⟨k + 1, by omega, by go_num, by rw [← set3_step l k hlt]; exact ho3, hB3⟩
      case measure => simp [intOf]; omega
    · clear ho hbw
      go_wp2
      go_ret
      have e : k = l.length := by omega
      subst e
      exact ⟨_, rfl, by simpa using HO2.out, HB.out⟩
theorem eqMsg_same (m : M3) (w : World) : Calls Try.prog 45 #[m.val, m.val] w fun e w' => e = .returned (.bool true) ∧ Below w.heap.size w w' := by
  obtain ⟨t, k, v⟩ := m
  have hB : Hid (Below w.heap.size w ((w.alloc (.cells #[.int .i64 t, .int .i64 k, .int .i64 v] 78)).alloc (.cells #[.int .i64 t, .int .i64 k, .int .i64 v] 78))) := ((Below.refl _ w).alloc (Nat.le_refl _) _).alloc (by simp) _
  rw [m3_val]
  go_enter Try.func45, Try.ntmps45
  go_wp2
  go_ret
  exact ⟨rfl, hB.out⟩
/-- Two lists that read alike, by a call that writes nothing old. -/
structure Gii (f : Fl M3) (w : World) (v u : Value) (l : List M3) (W : World) : Prop where
  sl : SlF f W v l
  su : SlF f W u l
  bel : Below w.heap.size w W
theorem Gii.below {f : Fl M3} {w W W' : World} {v u : Value} {l : List M3} (h : Gii f w v u l W) (hb : Below W.heap.size W W') : Gii f w v u l W' := ⟨h.sl.below hb, h.su.below hb, below_more h.bel hb⟩
theorem Gii.drew {f : Fl M3} {w W : World} {v u : Value} {l : List M3} (h : Gii f w v u l W) : Gii f w v u l W.drew := h.below (drew_below (n := 1) rfl)
theorem eqMsgS_same (v u : Value) (l : List M3) (w : World) (h1 : SlF fM w v l) (h2 : SlF fM w u l) :
    Calls Try.prog 16 #[v, u] w fun e w' => e = .returned (.bool true) ∧ Below w.heap.size w w' := by
  have hG : Gii fM w v u l w := ⟨h1, h2, Below.refl _ _⟩
  obtain ⟨a, c, rfl, -, hlc, hcm, -⟩ := h1
  obtain ⟨a2, c2, rfl, -, hlc2, hcm2, -⟩ := h2
  unfold maxLen at hcm hcm2
  have hll : ((l.length : Int) != (l.length : Int)) = false := by simp
  go_enter Try.func16, Try.ntmps16
  go_wp2_with fail
  go_loopw [5] (fun i wr => ∃ k : Nat, k ≤ l.length ∧ i = .int .i64 k ∧ Gii fM w (.slice a l.length c) (.slice a2 l.length c2) l wr) (fun i _ => l.length - (intOf i).toNat)
  case atStart => exact ⟨0, Nat.zero_le _, rfl, hG⟩
  case round =>
    clear hG
    obtain ⟨k, hk, rfl, hG⟩ := hrel
    by_cases hlt : k < l.length
    · obtain ⟨b, off, c', e, -, -, -⟩ := hG.sl.shape (by omega)
      simp only [Value.slice.injEq] at e
      obtain ⟨rfl, -, rfl⟩ := e
      obtain ⟨b2, off2, c2', e, -, -, -⟩ := hG.su.shape (by omega)
      simp only [Value.slice.injEq] at e
      obtain ⟨rfl, -, rfl⟩ := e
      go_wp2_with fail
      refine region_known (by kernel_rfl) (by kernel_rfl) 0 (by decide) (by kernel_rfl) (fun _ W => Gii fM w (.slice (some ⟨b, off, none⟩) l.length c) (.slice (some ⟨b2, off2, none⟩) l.length c2) l W) [.slice (some ⟨b, off, none⟩) l.length c, .int .i64 (k : Int), .pointer (some ⟨b, off + k * 3, none⟩), (M3.at' l k).val, .slice (some ⟨b2, off2, none⟩) l.length c2, .int .i64 (k : Int), .pointer (some ⟨b2, off2 + k * 3, none⟩), (M3.at' l k).val, .bool true, .bool false] hG.drew ?step ?done
      case step =>
        intro L ix o' A W hj hI hL hd
        have hin : ix < 10 := by
          by_cases hl : ix < 10
          · exact hl
          · simp [hl] at hj
        have hsz : A.tmps.size = 27 := hI.size
        have hg := hI.g
        rcases ix with _ | ix
        · obtain rfl := (Option.some.inj hj).symm
          have e0 : A.eval (.tmp 0) = .slice (some ⟨b, off, none⟩) l.length c := hI.old 0 (by kernel_rfl)
          exact at_op rfl rfl (move_op rfl ⟨_, rfl, e0, hg⟩)
        rcases ix with _ | ix
        · obtain rfl := (Option.some.inj hj).symm
          have e0 : A.eval (.tmp 5) = .int .i64 (k : Int) := hI.old 5 (by kernel_rfl)
          exact at_op rfl rfl (move_op rfl ⟨_, rfl, e0, hg⟩)
        rcases ix with _ | ix
        · obtain rfl := (Option.some.inj hj).symm
          have e0 : A.eval (.tmp 17) = .slice (some ⟨b, off, none⟩) l.length c := hI.val hd 0 17 rfl rfl (by kernel_rfl)
          have e1 : A.eval (.tmp 18) = .int .i64 (k : Int) := hI.val hd 1 18 rfl rfl (by kernel_rfl)
          exact at_op rfl rfl (ixF_op okM rfl e0 e1 (by omega) ⟨_, rfl, rfl, hg⟩)
        rcases ix with _ | ix
        · obtain rfl := (Option.some.inj hj).symm
          have e0 : A.eval (.tmp 19) = .pointer (some ⟨b, off + k * 3, none⟩) := hI.val hd 2 19 rfl rfl (by kernel_rfl)
          exact at_op rfl rfl (elF_op okM rfl e0 (hg.sl.range okM (at_some (by omega))) ⟨_, rfl, rfl, hg⟩)
        rcases ix with _ | ix
        · obtain rfl := (Option.some.inj hj).symm
          have e0 : A.eval (.tmp 1) = .slice (some ⟨b2, off2, none⟩) l.length c2 := hI.old 1 (by kernel_rfl)
          exact at_op rfl rfl (move_op rfl ⟨_, rfl, e0, hg⟩)
        rcases ix with _ | ix
        · obtain rfl := (Option.some.inj hj).symm
          have e0 : A.eval (.tmp 5) = .int .i64 (k : Int) := hI.old 5 (by kernel_rfl)
          exact at_op rfl rfl (move_op rfl ⟨_, rfl, e0, hg⟩)
        rcases ix with _ | ix
        · obtain rfl := (Option.some.inj hj).symm
          have e0 : A.eval (.tmp 21) = .slice (some ⟨b2, off2, none⟩) l.length c2 := hI.val hd 4 21 rfl rfl (by kernel_rfl)
          have e1 : A.eval (.tmp 22) = .int .i64 (k : Int) := hI.val hd 5 22 rfl rfl (by kernel_rfl)
          exact at_op rfl rfl (ixF_op okM rfl e0 e1 (by omega) ⟨_, rfl, rfl, hg⟩)
        rcases ix with _ | ix
        · obtain rfl := (Option.some.inj hj).symm
          have e0 : A.eval (.tmp 23) = .pointer (some ⟨b2, off2 + k * 3, none⟩) := hI.val hd 6 23 rfl rfl (by kernel_rfl)
          exact at_op rfl rfl (elF_op okM rfl e0 (hg.su.range okM (at_some (by omega))) ⟨_, rfl, rfl, hg⟩)
        rcases ix with _ | ix
        · obtain rfl := (Option.some.inj hj).symm
          have e0 : A.eval (.tmp 20) = (M3.at' l k).val := hI.val hd 3 20 rfl rfl (by kernel_rfl)
          have e1 : A.eval (.tmp 24) = (M3.at' l k).val := hI.val hd 7 24 rfl rfl (by kernel_rfl)
          refine at_op rfl rfl (call_op rfl Try.func45 (by kernel_rfl) (by kernel_rfl) ?_)
          simp only [List.map_cons, List.map_nil, e0, e1]
          refine (eqMsg_same _ _).mono ?_
          rintro e W1 ⟨rfl, hb⟩
          exact ⟨_, rfl, _, rfl, rfl, hg.below hb⟩
        rcases ix with _ | ix
        · obtain rfl := (Option.some.inj hj).symm
          have e0 : A.eval (.tmp 25) = .bool true := hI.val hd 8 25 rfl rfl (by kernel_rfl)
          refine at_op rfl rfl (val_op (v := .bool false) ?_ ⟨_, rfl, rfl, hg⟩)
          unfold execOp
          simp only [List.getElem_toArray, List.getElem_cons_zero, List.getElem_cons_succ, e0]
          simp [go_sem]
        omega
      case done =>
        intro A W hI
        have hg := hI.g
        have s26 : A.tmps.getD 26 undef = .bool false := hI.last 9 26 rfl
        have hA := hI.frame [17, 18, 19, 20, 21, 22, 23, 24, 25, 26] (by kernel_rfl)
        rw [hA]
        simp only [putAll, List.foldl_cons, List.foldl_nil, s26, Act.put, List.setIfInBounds_toArray, List.set_cons_zero, List.set_cons_succ]
        clear hA hI s26
        go_wp2
        go_roundw
        case rel => exact ⟨k + 1, by omega, by go_num, hg⟩
        case measure => simp [intOf]; omega
    · have hbel := hG.bel
      clear hG
      go_wp2
      go_ret
      exact ⟨rfl, hbel⟩
end Go.Proofs.Ytjjafaikaghlgaa.Mem
