/-
  A new machine, as the document's model and as the program make it.
-/
import Derived.Test.YtjjafaikaghlgaaMcW
import Derived.Test.YtjjafaikaghlgaaRegs
namespace Go.Proofs.Ytjjafaikaghlgaa.Mem
open Go.ChangeShapes Go.WideShapes Go.RowKit Base Num Slc Rw Tmr Srl Rom RomOf Reg
set_option linter.unusedVariables false
set_option maxRecDepth 20000

theorem built_nul : Try.prog.built 64 [] = some (Mc.nul.cells nil64 nil64) := by kernel_rfl
section
variable {ops : Array Oper} {rest : List Oper} {o : Oper} {a : Act} {w : World} {Q : Exit → Act → World → Prop}
/-- The zero machine, written out. -/
theorem bd_nul (hgd : o.guard = none) (ho : o.op = .build 64 #[]) (h : wpList Try.prog ops Q rest (a.put o.dst (Mc.nul.val nil64 nil64)) w) : wpList Try.prog ops Q (o :: rest) a w :=
  wpList_plain hgd fun _ hK => build_op (parts := []) (vals := []) ho rfl built_nul (hK _ _ h)
theorem ret_mc2 {fn : Func} {R : Ending → World → Prop} {q u : Tmp} {g : Nat} {vr va v : Value} {m : Mc} (h : fn.results = #[.cell q 64, .tmp u]) (hp : a.tmps.getD q undef = .pointer (some ⟨g, 0, none⟩)) (hr : MRow w g vr va m) (hde : a.defers = []) (hv : a.tmps.getD u undef = v)
    (hR : R (.returned (.tuple #[m.val vr va, v])) w) : bodyPost Try.prog fn R .ret a w := ret_row_tmp h hp hr Try.underlying64 rfl info_mc hde hv hR
end
theorem built_new (a a' : Option Addr) (n c n' c' : Nat) (l : List Int) : Try.prog.built 64 [(0, .slice a n c), (1, .slice a' n' c'), (5, .int .i64 192)] = some ((Mc.fresh l).cells (.slice a n c) (.slice a' n' c')) := by kernel_rfl
/-- The two share no block. -/
def Apart (x y : Value) : Prop := ∀ k, x.ownBlock = some k → y.ownBlock ≠ some k
/-- The region that makes the new machine: what is told of each operation. -/
def Tn (base g : Nat) (v : Value) (l : List Int) (j : Nat) (f : Nat → Value) (W : World) : Prop :=
  if j = 0 then f 8 = v
  else if j = 1 then Own base W (f 9) l ∧ Apart (f 9) (f 10)
  else if j = 2 then Own base W (f 10) (List.replicate 64 0) ∧ Apart (f 9) (f 10)
  else if j = 3 then f 11 = (Mc.fresh l).val (f 9) (f 10)
  else if j = 4 then MRow W g (f 9) (f 10) (Mc.fresh l)
  else if j = 5 then f 3 = .bool true
  else True
def Rn (g : Nat) (i : Nat) (f : Nat → Value) (W W' : World) : Prop :=
  (if i = 4 then Onto g W W' else Below W.heap.size W W') ∧ (i = 1 → ∀ k, (f 9).ownBlock = some k → W.heap.size ≤ k) ∧ (i = 2 → ∀ k, (f 10).ownBlock = some k → W.heap.size ≤ k)
def Xn (i j : Nat) : Bool := (i == 1 && j == 2) || (i == 2 && j == 1)
theorem Rn.own {base g i : Nat} {f : Nat → Value} {W W' : World} (h : Rn g i f W W') (hg : g < base) {x : Value} {l : List Int} (ho : Own base W x l) : Own base W' x l := by
  obtain ⟨h1, _⟩ := h
  by_cases hi : i = 4
  · rw [if_pos hi] at h1
    exact ho.onto h1 (fun e => by have := (ho.lt _ e).1; omega)
  · rw [if_neg hi] at h1
    exact ho.below h1
theorem Rn.below {g i : Nat} {f : Nat → Value} {W W' : World} (hb : Below W.heap.size W W') (h1 : i ≠ 1) (h2 : i ≠ 2) (h4 : i ≠ 4) : Rn g i f W W' :=
  ⟨by rw [if_neg h4]; exact hb, fun e => absurd e h1, fun e => absurd e h2⟩
theorem mono_n {ops : Array Oper} {base g : Nat} {v : Value} {l : List Int} (hg : g < base) (hS : supOkX ops [[8], [9, 10], [10, 9], [11, 9, 10], [9, 10], [3]] Xn = true) (hn : ops.size = 6)
    (h1 : ∀ o, ops[1]? = some o → o.dst = some 9) (h2 : ∀ o, ops[2]? = some o → o.dst = some 10) : MonoF ops (Tn base g v l) (Rn g) := by
  refine mono_supF hS (fun i j f f' W W' hij hx hf hT hR => ?_) (fun i j f f' W W' oi hij hx hoi hf hT hR => ?_)
  · by_cases j0 : j = 0
    · subst j0; exact (hf 8 (by simp)).trans hT
    by_cases j1 : j = 1
    · subst j1
      obtain ⟨t1, t2⟩ : Own base W (f 9) l ∧ Apart (f 9) (f 10) := hT
      have e9 := hf 9 (by simp)
      have e10 := hf 10 (by simp)
      show Own base W' (f' 9) l ∧ Apart (f' 9) (f' 10)
      rw [e9, e10]
      exact ⟨hR.own hg t1, t2⟩
    by_cases j2 : j = 2
    · subst j2
      obtain ⟨t1, t2⟩ : Own base W (f 10) (List.replicate 64 0) ∧ Apart (f 9) (f 10) := hT
      have e9 := hf 9 (by simp)
      have e10 := hf 10 (by simp)
      show Own base W' (f' 10) (List.replicate 64 0) ∧ Apart (f' 9) (f' 10)
      rw [e9, e10]
      exact ⟨hR.own hg t1, t2⟩
    by_cases j3 : j = 3
    · subst j3
      show f' 11 = (Mc.fresh l).val (f' 9) (f' 10)
      rw [hf 11 (by simp), hf 9 (by simp), hf 10 (by simp)]
      exact hT
    by_cases j4 : j = 4
    · subst j4
      show MRow W' g (f' 9) (f' 10) (Mc.fresh l)
      rw [hf 9 (by simp), hf 10 (by simp)]
      have h := hR.1
      rw [if_neg hij] at h
      exact Row.below (show MRow W g (f 9) (f 10) (Mc.fresh l) from hT) h
    by_cases j5 : j = 5
    · subst j5; exact (hf 3 (by simp)).trans hT
    · simp only [Tn, j0, j1, j2, j3, j4, j5, if_false]
  · simp only [Xn, Bool.or_eq_true, Bool.and_eq_true, beq_iff_eq] at hx
    rcases hx with ⟨rfl, rfl⟩ | ⟨rfl, rfl⟩
    · obtain ⟨t1, t2⟩ : Own base W (f 10) (List.replicate 64 0) ∧ Apart (f 9) (f 10) := hT
      have e10 := hf 10 (by rw [h1 oi hoi]; simp)
      show Own base W' (f' 10) (List.replicate 64 0) ∧ Apart (f' 9) (f' 10)
      rw [e10]
      exact ⟨hR.own hg t1, fun k hk hk' => by have := hR.2.1 rfl k hk; have := (t1.lt k hk').2; omega⟩
    · obtain ⟨t1, t2⟩ : Own base W (f 9) l ∧ Apart (f 9) (f 10) := hT
      have e9 := hf 9 (by rw [h2 oi hoi]; simp)
      show Own base W' (f' 9) l ∧ Apart (f' 9) (f' 10)
      rw [e9]
      exact ⟨hR.own hg t1, fun k hk hk' => by have := hR.2.2 rfl k hk'; have := (t1.lt k hk).2; omega⟩
set_option maxRecDepth 20000 in
set_option maxHeartbeats 1000000 in
theorem newMachine_spec (v : Value) (l : List Int) (w : World) (h : Sl w v l) :
    Calls Try.prog 37 #[v] w fun e w' => ∃ v', e = .returned (.tuple #[v', .bool (romOk l)]) ∧ MOwn w.heap.size w' v' (newMc l) ∧ Below w.heap.size w w' := by
  cases hok : romOk l
  · have e : newMc l = Mc.nul := by simp [newMc, hok]
    rw [e]
    go_enter Try.func37, Try.ntmps37
    go_wp2_with (first
      | (refine al_mc rfl rfl ?_; intro w1 z1 hB1)
      | (go_at_call 70; refine (romOk_specS _ l _ (h.below hB1)).mono ?_; rintro e w2 ⟨rfl, n2, rfl⟩; rw [hok]; have z2 := z1.drewN n2; have hB2 := below_drewN hB1 n2)
      | (refine bd_nul rfl rfl ?_)
      | (refine st_mc rfl rfl rfl rfl z2 rfl rfl ?_; intro w3 z3 o3 s3))
    refine ret_mc2 rfl rfl z3 rfl rfl ?_
    exact ⟨_, rfl, nul_own _ _, below_onto hB2 o3 (Nat.le_refl _)⟩
  · have e : newMc l = Mc.fresh l := by simp [newMc, hok]
    rw [e]
    have hl := romOk_len hok
    go_enter Try.func37, Try.ntmps37
    go_wp2_with (first
      | (refine al_mc rfl rfl ?_; intro w1 z1 hB1)
      | (go_at_call 70; refine (romOk_specS _ l _ (h.below hB1)).mono ?_; rintro e w2 ⟨rfl, n2, rfl⟩; rw [hok]; have z2 := z1.drewN n2; have hB2 := below_drewN hB1 n2))
    have hg := z2.lt
    have hG : (∃ x y m0, MRow (w1.drewN n2) w.heap.size x y m0) ∧ Below w.heap.size w (w1.drewN n2) ∧ w.heap.size < (w1.drewN n2).heap.size := ⟨⟨_, _, _, z2⟩, hB2, hg⟩
    clear z1 z2 hB1 hB2 hg
    refine region_genF (by kernel_rfl) (by kernel_rfl) (fun W => (∃ x y m0, MRow W w.heap.size x y m0) ∧ Below w.heap.size w W ∧ w.heap.size < W.heap.size) (Tn (w.heap.size + 1) w.heap.size v l) (Rn w.heap.size)
      (mono_n (by omega) (by kernel_rfl) rfl (fun o ho => by obtain rfl := (Option.some.inj ho).symm; rfl) (fun o ho => by obtain rfl := (Option.some.inj ho).symm; rfl)) ⟨hG.1.imp fun _ h => h.imp fun _ h => h.imp fun _ r => r.drewN 1, hG.2.1.drew, hG.2.2⟩ ?step ?done
    case step =>
      intro L ix o A W hi hI hL hd
      have hin : ix < 6 := by
        by_cases hl : ix < 6
        · exact hl
        · simp [hl] at hi
      have hsz : A.tmps.size = 12 := hI.size
      obtain ⟨⟨x0, y0, m0, hr⟩, hB, hgl⟩ := hI.g
      rcases ix with _ | ix
      · obtain rfl := (Option.some.inj hi).symm
        have e : A.eval (.tmp 0) = v := hI.old 0 (by kernel_rfl)
        exact at_op rfl rfl (move_op rfl ⟨_, rfl, (getD_put_same _ _ _ (by omega)).trans e, ⟨⟨x0, y0, m0, hr⟩, hB, hgl⟩, Rn.below (Below.refl _ _) (by omega) (by omega) (by omega)⟩)
      rcases ix with _ | ix
      · obtain rfl := (Option.some.inj hi).symm
        have e0 : A.eval (.tmp 8) = v := hI.get hd 0 rfl (by kernel_rfl)
        refine at_op rfl rfl (call_op rfl Try.func71 (by kernel_rfl) (by kernel_rfl) ?_)
        simp only [List.map_cons, List.map_nil, e0]
        refine (copy_spec v l W (h.below hB) (by omega)).mono ?_
        rintro e w5 ⟨v5, rfl, ho5, hb5⟩
        have e9 : at_ (A.put (some 9) v5) 9 = v5 := getD_put_same _ _ _ (by omega)
        have e10 : at_ (A.put (some 9) v5) 10 = at_ A 10 := getD_put _ _ _ _ (by simp)
        refine ⟨_, rfl, _, rfl, ⟨?_, ?_⟩, ⟨⟨x0, y0, m0, hr.below hb5⟩, hB.trans (hb5.mono hB.size), by have := hb5.size; omega⟩, ⟨?_, ?_, ?_⟩⟩
        · show Own _ _ (at_ (A.put (some 9) v5) 9) _
          rw [e9]; exact ho5.mono (by omega)
        · show Apart (at_ (A.put (some 9) v5) 9) (at_ (A.put (some 9) v5) 10)
          rw [e9, e10]
          intro k hk hk'
          have := (ho5.lt k hk).1
          cases hL2 : L 2
          · have e := hI.rest 10 (fun j hj => by
              rcases j with _ | _ | _ | _ | _ | _ | j
              all_goals first | (simp; done) | (intro; simp [hL2] at hj) | skip
              all_goals simp)
            have e' : at_ A 10 = undef := e
            rw [e'] at hk'; cases hk'
          · have t2 : Own _ _ (at_ A 10) _ ∧ _ := hI.told 2 _ rfl hL2
            have := (t2.1.lt k hk').2
            omega
        · exact hb5
        · intro _ k hk
          have hk2 : (at_ (A.put (some 9) v5) 9).ownBlock = some k := hk
          rw [e9] at hk2
          exact (ho5.lt k hk2).1
        · intro h; omega
      rcases ix with _ | ix
      · obtain rfl := (Option.some.inj hi).symm
        obtain ⟨i0, hi0, hz0, hz1, hz2⟩ := info_parts info64
        refine at_op rfl rfl (wp_make (z := .int .i64 0) (size := 1) _ _ rfl (w.heap.size + 1) und64 hi0 hz0 hz1 .i64 .i64 64 rfl rfl (by rw [hz2]; omega) (by decide) (by omega) ?_)
        intro W' ho' hg'
        have hown : Own (w.heap.size + 1) W' (.slice (some ⟨W.heap.size, 0, none⟩) 64 64) (List.replicate 64 0) := by
          have e : (madeCells (Value.int .i64 0).cells (64 * 1)).toList = List.replicate 64 (Value.int .i64 0) := toList_madeCells_one (.int .i64 0) 64
          rw [e] at ho'
          simpa [Own] using ho'
        have hb5 : Below W.heap.size W W' := (Below.refl _ _).grown hg' (Nat.le_refl _) (by simp)
        obtain ⟨v5, hv5⟩ : ∃ v5, v5 = Value.slice (some ⟨W.heap.size, 0, none⟩) 64 64 := ⟨_, rfl⟩
        rw [← hv5] at hown ⊢
        have e10 : at_ (A.put (some 10) v5) 10 = v5 := getD_put_same _ _ _ (by omega)
        have e9 : at_ (A.put (some 10) v5) 9 = at_ A 9 := getD_put _ _ _ _ (by simp)
        refine ⟨_, rfl, ⟨?_, ?_⟩, ⟨⟨x0, y0, m0, hr.below hb5⟩, hB.trans (hb5.mono hB.size), by have := hb5.size; omega⟩, ⟨?_, ?_, ?_⟩⟩
        · show Own _ _ (at_ (A.put (some 10) v5) 10) _
          rw [e10]; exact hown
        · show Apart (at_ (A.put (some 10) v5) 9) (at_ (A.put (some 10) v5) 10)
          rw [e9, e10, hv5]
          intro k hk hk'
          simp [Value.ownBlock] at hk'
          cases hL1 : L 1
          · have e := hI.rest 9 (fun j hj => by
              rcases j with _ | _ | _ | _ | _ | _ | j
              all_goals first | (simp; done) | (intro; simp [hL1] at hj) | skip
              all_goals simp)
            have e' : at_ A 9 = undef := e
            rw [e'] at hk; cases hk
          · have t1 : Own _ _ (at_ A 9) _ ∧ _ := hI.told 1 _ rfl hL1
            have := (t1.1.lt k hk).2
            omega
        · exact hb5
        · intro h; omega
        · intro _ k hk
          have hk2 : (at_ (A.put (some 10) v5) 10).ownBlock = some k := hk
          rw [e10, hv5] at hk2
          simp [Value.ownBlock] at hk2
          omega
      rcases ix with _ | ix
      · obtain rfl := (Option.some.inj hi).symm
        obtain ⟨t1, _⟩ : Own _ _ (at_ A 9) l ∧ _ := hI.get hd 1 rfl (by kernel_rfl)
        obtain ⟨t2, _⟩ : Own _ _ (at_ A 10) (List.replicate 64 0) ∧ _ := hI.get hd 2 rfl (by kernel_rfl)
        obtain ⟨a1, c1, e1, _⟩ := t1.shape
        obtain ⟨a2, c2, e2, _⟩ := t2.shape
        have e1' : A.eval (.tmp 9) = .slice a1 l.length c1 := e1
        have e2' : A.eval (.tmp 10) = .slice a2 (List.replicate 64 (0 : Int)).length c2 := e2
        refine at_op rfl rfl (build_op (parts := [(0, .tmp 9), (1, .tmp 10), (5, .const (.int .i64 192))]) (vals := [(0, .slice a1 l.length c1), (1, .slice a2 (List.replicate 64 (0 : Int)).length c2), (5, .int .i64 192)]) rfl (by simp only [List.map_cons, List.map_nil, e1', e2']; rfl) (built_new _ _ _ _ _ _ l) ⟨_, rfl, ?_, ⟨⟨x0, y0, m0, hr⟩, hB, hgl⟩, Rn.below (Below.refl _ _) (by omega) (by omega) (by omega)⟩)
        have e11 : ∀ q, at_ (A.put (some 11) q) 11 = q := fun q => getD_put_same _ _ _ (by omega)
        have e9 : ∀ q, at_ (A.put (some 11) q) 9 = at_ A 9 := fun q => getD_put _ _ _ _ (by simp)
        have e10 : ∀ q, at_ (A.put (some 11) q) 10 = at_ A 10 := fun q => getD_put _ _ _ _ (by simp)
        show at_ (A.put (some 11) _) 11 = (Mc.fresh l).val (at_ (A.put (some 11) _) 9) (at_ (A.put (some 11) _) 10)
        rw [e11, e9, e10, e1, e2]
        rfl
      rcases ix with _ | ix
      · obtain rfl := (Option.some.inj hi).symm
        obtain ⟨t1, _⟩ : Own _ _ (at_ A 9) l ∧ _ := hI.get hd 1 rfl (by kernel_rfl)
        obtain ⟨t2, _⟩ : Own _ _ (at_ A 10) (List.replicate 64 0) ∧ _ := hI.get hd 2 rfl (by kernel_rfl)
        have t3 : A.eval (.tmp 11) = (Mc.fresh l).val (at_ A 9) (at_ A 10) := hI.get hd 3 rfl (by kernel_rfl)
        have e2 : A.eval (.tmp 2) = .pointer (some ⟨w.heap.size, 0, none⟩) := hI.old 2 (by kernel_rfl)
        refine at_op rfl rfl (wp_store_row _ _ _ rfl _ _ e2 t3 _ _ hr.row info_mc rfl (all_one (one_own t1) (one_own t2) _) ⟨_, rfl, ?_, ⟨⟨_, _, _, Row.of (setRow_heap W _ _ _ _ _ hr.row)⟩, below_onto hB (row_set _) (Nat.le_refl _), ?_⟩, ⟨by rw [if_pos rfl]; exact row_set _, fun h => by omega, fun h => by omega⟩⟩)
        · exact Row.of (setRow_heap W _ _ _ _ _ hr.row)
        · have := (row_set (W := W) (b := w.heap.size) ((Mc.fresh l).cells (at_ A 9) (at_ A 10))).size; omega
      rcases ix with _ | ix
      · obtain rfl := (Option.some.inj hi).symm
        exact at_op rfl rfl (assign_op rfl ⟨_, rfl, getD_put_same _ _ _ (by omega), ⟨⟨x0, y0, m0, hr⟩, hB, hgl⟩, Rn.below (Below.refl _ _) (by omega) (by omega) (by omega)⟩)
      omega
    case done =>
      intro A W hI
      obtain ⟨⟨x0, y0, m0, hr⟩, hB, hgl⟩ := hI.g
      obtain ⟨t1, ta⟩ : Own _ _ (at_ A 9) l ∧ Apart (at_ A 9) (at_ A 10) := hI.told 1 _ rfl rfl
      obtain ⟨t2, _⟩ : Own _ _ (at_ A 10) (List.replicate 64 0) ∧ _ := hI.told 2 _ rfl rfl
      have t4 : MRow W w.heap.size (at_ A 9) (at_ A 10) (Mc.fresh l) := hI.told 4 _ rfl rfl
      have e3 : A.tmps.getD 3 undef = .bool true := hI.told 5 _ rfl rfl
      have e2 : A.tmps.getD 2 undef = .pointer (some ⟨w.heap.size, 0, none⟩) := hI.old 2 (by kernel_rfl)
      generalize at_ A 9 = x at *
      generalize at_ A 10 = y at *
      have hA := frame_lit A 12 hI.size
      have hde : A.defers = [] := hI.defers
      rw [hde, show List.range 12 = [0, 1, 2, 3, 4, 5, 6, 7, 8, 9, 10, 11] from rfl] at hA
      simp only [List.map_cons, List.map_nil, e2, e3] at hA
      rw [hA]
      clear hA e2 e3 hI hde
      go_wp2
      refine ret_mc2 rfl rfl t4 rfl rfl ?_
      exact ⟨_, rfl, ⟨x, y, rfl, t1.mono (by omega), t2.mono (by omega), ta⟩, hB⟩
set_option maxRecDepth 20000 in
set_option maxHeartbeats 1000000 in
theorem newMachine_impl (v : Value) (l : List Int) (w : World) (h : Sl w v l) :
    Calls Try.prog 41 #[v] w fun e w' => ∃ v', e = .returned (.tuple #[v', .bool (romOk l)]) ∧ MOwn w.heap.size w' v' (newMc l) ∧ Below w.heap.size w w' := by
  cases hok : romOk l
  · have e : newMc l = Mc.nul := by simp [newMc, hok]
    rw [e]
    go_enter Try.func41, Try.ntmps41
    go_wp2_with (first
      | (refine al_mc rfl rfl ?_; intro w1 z1 hB1)
      | (go_at_call 58; refine (romOk_implS _ l _ (h.below hB1)).mono ?_; rintro e w2 ⟨rfl, n2, rfl⟩; rw [hok]; have z2 := z1.drewN n2; have hB2 := below_drewN hB1 n2)
      | (refine bd_nul rfl rfl ?_)
      | (refine st_mc rfl rfl rfl rfl z2 rfl rfl ?_; intro w3 z3 o3 s3))
    refine ret_mc2 rfl rfl z3 rfl rfl ?_
    exact ⟨_, rfl, nul_own _ _, below_onto hB2 o3 (Nat.le_refl _)⟩
  · have e : newMc l = Mc.fresh l := by simp [newMc, hok]
    rw [e]
    have hl := romOk_len hok
    go_enter Try.func41, Try.ntmps41
    go_wp2_with (first
      | (refine al_mc rfl rfl ?_; intro w1 z1 hB1)
      | (go_at_call 58; refine (romOk_implS _ l _ (h.below hB1)).mono ?_; rintro e w2 ⟨rfl, n2, rfl⟩; rw [hok]; have z2 := z1.drewN n2; have hB2 := below_drewN hB1 n2))
    have hg := z2.lt
    have hG : (∃ x y m0, MRow (w1.drewN n2) w.heap.size x y m0) ∧ Below w.heap.size w (w1.drewN n2) ∧ w.heap.size < (w1.drewN n2).heap.size := ⟨⟨_, _, _, z2⟩, hB2, hg⟩
    clear z1 z2 hB1 hB2 hg
    refine region_genF (by kernel_rfl) (by kernel_rfl) (fun W => (∃ x y m0, MRow W w.heap.size x y m0) ∧ Below w.heap.size w W ∧ w.heap.size < W.heap.size) (Tn (w.heap.size + 1) w.heap.size v l) (Rn w.heap.size)
      (mono_n (by omega) (by kernel_rfl) rfl (fun o ho => by obtain rfl := (Option.some.inj ho).symm; rfl) (fun o ho => by obtain rfl := (Option.some.inj ho).symm; rfl)) ⟨hG.1.imp fun _ h => h.imp fun _ h => h.imp fun _ r => r.drewN 1, hG.2.1.drew, hG.2.2⟩ ?step ?done
    case step =>
      intro L ix o A W hi hI hL hd
      have hin : ix < 6 := by
        by_cases hl : ix < 6
        · exact hl
        · simp [hl] at hi
      have hsz : A.tmps.size = 12 := hI.size
      obtain ⟨⟨x0, y0, m0, hr⟩, hB, hgl⟩ := hI.g
      rcases ix with _ | ix
      · obtain rfl := (Option.some.inj hi).symm
        have e : A.eval (.tmp 0) = v := hI.old 0 (by kernel_rfl)
        exact at_op rfl rfl (move_op rfl ⟨_, rfl, (getD_put_same _ _ _ (by omega)).trans e, ⟨⟨x0, y0, m0, hr⟩, hB, hgl⟩, Rn.below (Below.refl _ _) (by omega) (by omega) (by omega)⟩)
      rcases ix with _ | ix
      · obtain rfl := (Option.some.inj hi).symm
        have e0 : A.eval (.tmp 8) = v := hI.get hd 0 rfl (by kernel_rfl)
        refine at_op rfl rfl (call_op rfl Try.func72 (by kernel_rfl) (by kernel_rfl) ?_)
        simp only [List.map_cons, List.map_nil, e0]
        refine (clone_any v l W (h.below hB) (by omega)).mono ?_
        rintro e w5 ⟨v5, rfl, ho5, hb5⟩
        have e9 : at_ (A.put (some 9) v5) 9 = v5 := getD_put_same _ _ _ (by omega)
        have e10 : at_ (A.put (some 9) v5) 10 = at_ A 10 := getD_put _ _ _ _ (by simp)
        refine ⟨_, rfl, _, rfl, ⟨?_, ?_⟩, ⟨⟨x0, y0, m0, hr.below hb5⟩, hB.trans (hb5.mono hB.size), by have := hb5.size; omega⟩, ⟨?_, ?_, ?_⟩⟩
        · show Own _ _ (at_ (A.put (some 9) v5) 9) _
          rw [e9]; exact ho5.mono (by omega)
        · show Apart (at_ (A.put (some 9) v5) 9) (at_ (A.put (some 9) v5) 10)
          rw [e9, e10]
          intro k hk hk'
          have := (ho5.lt k hk).1
          cases hL2 : L 2
          · have e := hI.rest 10 (fun j hj => by
              rcases j with _ | _ | _ | _ | _ | _ | j
              all_goals first | (simp; done) | (intro; simp [hL2] at hj) | skip
              all_goals simp)
            have e' : at_ A 10 = undef := e
            rw [e'] at hk'; cases hk'
          · have t2 : Own _ _ (at_ A 10) _ ∧ _ := hI.told 2 _ rfl hL2
            have := (t2.1.lt k hk').2
            omega
        · exact hb5
        · intro _ k hk
          have hk2 : (at_ (A.put (some 9) v5) 9).ownBlock = some k := hk
          rw [e9] at hk2
          exact (ho5.lt k hk2).1
        · intro h; omega
      rcases ix with _ | ix
      · obtain rfl := (Option.some.inj hi).symm
        obtain ⟨i0, hi0, hz0, hz1, hz2⟩ := info_parts info64
        refine at_op rfl rfl (wp_make (z := .int .i64 0) (size := 1) _ _ rfl (w.heap.size + 1) und64 hi0 hz0 hz1 .i64 .i64 64 rfl rfl (by rw [hz2]; omega) (by decide) (by omega) ?_)
        intro W' ho' hg'
        have hown : Own (w.heap.size + 1) W' (.slice (some ⟨W.heap.size, 0, none⟩) 64 64) (List.replicate 64 0) := by
          have e : (madeCells (Value.int .i64 0).cells (64 * 1)).toList = List.replicate 64 (Value.int .i64 0) := toList_madeCells_one (.int .i64 0) 64
          rw [e] at ho'
          simpa [Own] using ho'
        have hb5 : Below W.heap.size W W' := (Below.refl _ _).grown hg' (Nat.le_refl _) (by simp)
        obtain ⟨v5, hv5⟩ : ∃ v5, v5 = Value.slice (some ⟨W.heap.size, 0, none⟩) 64 64 := ⟨_, rfl⟩
        rw [← hv5] at hown ⊢
        have e10 : at_ (A.put (some 10) v5) 10 = v5 := getD_put_same _ _ _ (by omega)
        have e9 : at_ (A.put (some 10) v5) 9 = at_ A 9 := getD_put _ _ _ _ (by simp)
        refine ⟨_, rfl, ⟨?_, ?_⟩, ⟨⟨x0, y0, m0, hr.below hb5⟩, hB.trans (hb5.mono hB.size), by have := hb5.size; omega⟩, ⟨?_, ?_, ?_⟩⟩
        · show Own _ _ (at_ (A.put (some 10) v5) 10) _
          rw [e10]; exact hown
        · show Apart (at_ (A.put (some 10) v5) 9) (at_ (A.put (some 10) v5) 10)
          rw [e9, e10, hv5]
          intro k hk hk'
          simp [Value.ownBlock] at hk'
          cases hL1 : L 1
          · have e := hI.rest 9 (fun j hj => by
              rcases j with _ | _ | _ | _ | _ | _ | j
              all_goals first | (simp; done) | (intro; simp [hL1] at hj) | skip
              all_goals simp)
            have e' : at_ A 9 = undef := e
            rw [e'] at hk; cases hk
          · have t1 : Own _ _ (at_ A 9) _ ∧ _ := hI.told 1 _ rfl hL1
            have := (t1.1.lt k hk).2
            omega
        · exact hb5
        · intro h; omega
        · intro _ k hk
          have hk2 : (at_ (A.put (some 10) v5) 10).ownBlock = some k := hk
          rw [e10, hv5] at hk2
          simp [Value.ownBlock] at hk2
          omega
      rcases ix with _ | ix
      · obtain rfl := (Option.some.inj hi).symm
        obtain ⟨t1, _⟩ : Own _ _ (at_ A 9) l ∧ _ := hI.get hd 1 rfl (by kernel_rfl)
        obtain ⟨t2, _⟩ : Own _ _ (at_ A 10) (List.replicate 64 0) ∧ _ := hI.get hd 2 rfl (by kernel_rfl)
        obtain ⟨a1, c1, e1, _⟩ := t1.shape
        obtain ⟨a2, c2, e2, _⟩ := t2.shape
        have e1' : A.eval (.tmp 9) = .slice a1 l.length c1 := e1
        have e2' : A.eval (.tmp 10) = .slice a2 (List.replicate 64 (0 : Int)).length c2 := e2
        refine at_op rfl rfl (build_op (parts := [(0, .tmp 9), (1, .tmp 10), (5, .const (.int .i64 192))]) (vals := [(0, .slice a1 l.length c1), (1, .slice a2 (List.replicate 64 (0 : Int)).length c2), (5, .int .i64 192)]) rfl (by simp only [List.map_cons, List.map_nil, e1', e2']; rfl) (built_new _ _ _ _ _ _ l) ⟨_, rfl, ?_, ⟨⟨x0, y0, m0, hr⟩, hB, hgl⟩, Rn.below (Below.refl _ _) (by omega) (by omega) (by omega)⟩)
        have e11 : ∀ q, at_ (A.put (some 11) q) 11 = q := fun q => getD_put_same _ _ _ (by omega)
        have e9 : ∀ q, at_ (A.put (some 11) q) 9 = at_ A 9 := fun q => getD_put _ _ _ _ (by simp)
        have e10 : ∀ q, at_ (A.put (some 11) q) 10 = at_ A 10 := fun q => getD_put _ _ _ _ (by simp)
        show at_ (A.put (some 11) _) 11 = (Mc.fresh l).val (at_ (A.put (some 11) _) 9) (at_ (A.put (some 11) _) 10)
        rw [e11, e9, e10, e1, e2]
        rfl
      rcases ix with _ | ix
      · obtain rfl := (Option.some.inj hi).symm
        obtain ⟨t1, _⟩ : Own _ _ (at_ A 9) l ∧ _ := hI.get hd 1 rfl (by kernel_rfl)
        obtain ⟨t2, _⟩ : Own _ _ (at_ A 10) (List.replicate 64 0) ∧ _ := hI.get hd 2 rfl (by kernel_rfl)
        have t3 : A.eval (.tmp 11) = (Mc.fresh l).val (at_ A 9) (at_ A 10) := hI.get hd 3 rfl (by kernel_rfl)
        have e2 : A.eval (.tmp 2) = .pointer (some ⟨w.heap.size, 0, none⟩) := hI.old 2 (by kernel_rfl)
        refine at_op rfl rfl (wp_store_row _ _ _ rfl _ _ e2 t3 _ _ hr.row info_mc rfl (all_one (one_own t1) (one_own t2) _) ⟨_, rfl, ?_, ⟨⟨_, _, _, Row.of (setRow_heap W _ _ _ _ _ hr.row)⟩, below_onto hB (row_set _) (Nat.le_refl _), ?_⟩, ⟨by rw [if_pos rfl]; exact row_set _, fun h => by omega, fun h => by omega⟩⟩)
        · exact Row.of (setRow_heap W _ _ _ _ _ hr.row)
        · have := (row_set (W := W) (b := w.heap.size) ((Mc.fresh l).cells (at_ A 9) (at_ A 10))).size; omega
      rcases ix with _ | ix
      · obtain rfl := (Option.some.inj hi).symm
        exact at_op rfl rfl (assign_op rfl ⟨_, rfl, getD_put_same _ _ _ (by omega), ⟨⟨x0, y0, m0, hr⟩, hB, hgl⟩, Rn.below (Below.refl _ _) (by omega) (by omega) (by omega)⟩)
      omega
    case done =>
      intro A W hI
      obtain ⟨⟨x0, y0, m0, hr⟩, hB, hgl⟩ := hI.g
      obtain ⟨t1, ta⟩ : Own _ _ (at_ A 9) l ∧ Apart (at_ A 9) (at_ A 10) := hI.told 1 _ rfl rfl
      obtain ⟨t2, _⟩ : Own _ _ (at_ A 10) (List.replicate 64 0) ∧ _ := hI.told 2 _ rfl rfl
      have t4 : MRow W w.heap.size (at_ A 9) (at_ A 10) (Mc.fresh l) := hI.told 4 _ rfl rfl
      have e3 : A.tmps.getD 3 undef = .bool true := hI.told 5 _ rfl rfl
      have e2 : A.tmps.getD 2 undef = .pointer (some ⟨w.heap.size, 0, none⟩) := hI.old 2 (by kernel_rfl)
      generalize at_ A 9 = x at *
      generalize at_ A 10 = y at *
      have hA := frame_lit A 12 hI.size
      have hde : A.defers = [] := hI.defers
      rw [hde, show List.range 12 = [0, 1, 2, 3, 4, 5, 6, 7, 8, 9, 10, 11] from rfl] at hA
      simp only [List.map_cons, List.map_nil, e2, e3] at hA
      rw [hA]
      clear hA e2 e3 hI hde
      go_wp2
      refine ret_mc2 rfl rfl t4 rfl rfl ?_
      exact ⟨_, rfl, ⟨x, y, rfl, t1.mono (by omega), t2.mono (by omega), ta⟩, hB⟩
end Go.Proofs.Ytjjafaikaghlgaa.Mem
