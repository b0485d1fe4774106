/-
  A machine's copy, as the program makes it.
-/
import Derived.Test.YtocofjimkfffeaaGreatDoorMcNew
namespace Go.Proofs.YtocofjimkfffeaaGreatDoor.Mem
open Go.ChangeShapes Go.WideShapes Go.RowKit Base Num Slc Rw Tmr Srl Rom RomOf Reg
set_option linter.unusedVariables false
set_option linter.unusedSimpArgs false

theorem sl_onto {g : Nat} {w w' : World} {v : Value} {l : List Int} (h : Sl w v l) (ho : Onto g w w') (hv : v.ownBlock ≠ some g) : Sl w' v l := by
  obtain ⟨a, cap, rfl, h1, h2⟩ := h
  refine ⟨a, cap, rfl, h1.onto ho (fun _ x hx e => hv ?_), h2⟩
  subst hx
  simp [Value.ownBlock, e]
/-- A list goes into its place, in a drawn region. -/
theorem sw_in {P : Program} {o : Oper} {a : Act} {w : World} {K : Act → World → Prop} {Q : Exit → Act → World → Prop} {ty : TypeId} {x y : Operand} (ho : o.op = .store ty x y)
    {g k : Nat} {v : Value} {cs : Array Value} {T : TypeId} (hx : a.eval x = .pointer (some ⟨g, k, none⟩)) (hy : a.eval y = v) (hr : Row w g cs T) (h1 : v.oneCell' = true)
    (hi : (P.info? ty).map (·.size) = some 1) (hk : k < cs.size)
    (h : ∀ w', Row w' g (cs.setIfInBounds k v) T → Onto g w w' → K (a.put o.dst undef) w') : o.wp P a w K Q := by
  unfold Oper.wp execOp
  have hv := cells_one h1
  simp only [ho, hx, hy, Instr.storeAt, Instr.sureAddr, Sem.run_bind, Sem.run_pure, Result.andThen_ok, run_store_in w g k ty v [v] hv (hr.there k 1 (by omega)) (by simpa using hi) (by simp [h1])]
  exact h _ (hr.cells [v] k) (onto_cells [v] k _ _ (Onto.refl _ _))
/-- A list is read. -/
theorem loads_op {o : Oper} {a : Act} {w : World} {K : Act → World → Prop} {Q : Exit → Act → World → Prop} {x : Operand} {ad : Addr} {v : Value} (ho : o.op = .load 24 x) (hx : a.eval x = .pointer (some ad)) (hc : w.cell? ad = some v)
    (h : K (a.put o.dst v) w) : o.wp Tryz.prog a w K Q := by
  unfold Oper.wp execOp
  have e : (loadVar 24 ad).run Tryz.prog w = .ok v w := by simp [loadVar, isAgg, run_underlying Tryz.underlying24, run_load, hc]
  simp only [ho, hx, Instr.loadAt, Instr.sureAddr, Sem.run_bind, Sem.run_pure, Result.andThen_ok, e]
  exact h
structure Gc (w : World) (g g2 : Nat) (m : Mc) (W : World) : Prop where
  row : ∃ x y, MRow W g x y m ∧ Sl W x m.rom ∧ Sl W y m.ram ∧ x.ownBlock ≠ some g ∧ y.ownBlock ≠ some g
  out : ∃ x y m0, MRow W g2 x y m0
  bel : Below w.heap.size w W
  lt : g2 < W.heap.size
def Tc (base g : Nat) (m : Mc) (j : Nat) (f : Nat → Value) (W : World) : Prop :=
  if j = 0 then f 3 = .pointer (some ⟨g, 0, none⟩)
  else if j = 1 then Sl W (f 4) m.rom ∧ (f 4).ownBlock ≠ some g
  else if j = 2 then Own base W (f 5) m.rom
  else if j = 3 then f 6 = .pointer (some ⟨g, 1, none⟩)
  else if j = 4 then Sl W (f 7) m.ram ∧ (f 7).ownBlock ≠ some g
  else if j = 5 then Own base W (f 8) m.ram ∧ Apart (f 5) (f 8)
  else if j = 6 then f 9 = .pointer (some ⟨g, 0, none⟩)
  else if j = 7 then W.cell? ⟨g, 0, none⟩ = some (f 5)
  else if j = 8 then f 10 = .pointer (some ⟨g, 1, none⟩)
  else if j = 9 then W.cell? ⟨g, 1, none⟩ = some (f 8)
  else True
def Rc (g : Nat) (i : Nat) (W W' : World) : Prop :=
  if i = 7 then Onto g W W' ∧ W'.cell? ⟨g, 1, none⟩ = W.cell? ⟨g, 1, none⟩ else if i = 9 then Onto g W W' ∧ W'.cell? ⟨g, 0, none⟩ = W.cell? ⟨g, 0, none⟩ else Below W.heap.size W W'
theorem Rc.cases {g i : Nat} {W W' : World} (h : Rc g i W W') : Onto g W W' ∨ Below W.heap.size W W' := by
  unfold Rc at h
  split at h
  · exact .inl h.1
  · split at h
    · exact .inl h.1
    · exact .inr h
theorem Rc.own {base g i : Nat} {W W' : World} (h : Rc g i W W') (hg : g < base) {x : Value} {l : List Int} (ho : Own base W x l) : Own base W' x l := by
  rcases h.cases with h | h
  · exact ho.onto h (fun e => by have := (ho.lt _ e).1; omega)
  · exact ho.below h
theorem Rc.sl {g i : Nat} {W W' : World} (h : Rc g i W W') {x : Value} {l : List Int} (ho : Sl W x l) (hx : x.ownBlock ≠ some g) : Sl W' x l := by
  rcases h.cases with h | h
  · exact sl_onto ho h hx
  · exact ho.below h
theorem mono_c {ops : Array Oper} {base g : Nat} {m : Mc} (hg : g < base) (hS : supOk ops [[3], [4], [5], [6], [7], [8, 5], [9], [5], [10], [8]] = true) : Mono ops (Tc base g m) (Rc g) := by
  refine mono_sup hS (fun j f f' W hf hT => ?_) (fun i j f W W' hij hT hR => ?_)
  · rcases j with _ | _ | _ | _ | _ | _ | _ | _ | _ | _ | j
    · exact (hf 3 (by simp)).trans hT
    · show Sl W (f' 4) m.rom ∧ (f' 4).ownBlock ≠ some g
      rw [hf 4 (by simp)]; exact hT
    · show Own base W (f' 5) m.rom
      rw [hf 5 (by simp)]; exact hT
    · exact (hf 6 (by simp)).trans hT
    · show Sl W (f' 7) m.ram ∧ (f' 7).ownBlock ≠ some g
      rw [hf 7 (by simp)]; exact hT
    · show Own base W (f' 8) m.ram ∧ Apart (f' 5) (f' 8)
      rw [hf 8 (by simp), hf 5 (by simp)]; exact hT
    · exact (hf 9 (by simp)).trans hT
    · show W.cell? ⟨g, 0, none⟩ = some (f' 5)
      rw [hf 5 (by simp)]; exact hT
    · exact (hf 10 (by simp)).trans hT
    · show W.cell? ⟨g, 1, none⟩ = some (f' 8)
      rw [hf 8 (by simp)]; exact hT
    · simp [Tc]
  · rcases j with _ | _ | _ | _ | _ | _ | _ | _ | _ | _ | j
    · exact hT
    · have hT' : Sl W (f 4) m.rom ∧ (f 4).ownBlock ≠ some g := hT
      exact ⟨hR.sl hT'.1 hT'.2, hT'.2⟩
    · exact hR.own hg (show Own base W (f 5) m.rom from hT)
    · exact hT
    · have hT' : Sl W (f 7) m.ram ∧ (f 7).ownBlock ≠ some g := hT
      exact ⟨hR.sl hT'.1 hT'.2, hT'.2⟩
    · have hT' : Own base W (f 8) m.ram ∧ Apart (f 5) (f 8) := hT
      exact ⟨hR.own hg hT'.1, hT'.2⟩
    · exact hT
    · have hT' : W.cell? ⟨g, 0, none⟩ = some (f 5) := hT
      show W'.cell? ⟨g, 0, none⟩ = some (f 5)
      unfold Rc at hR
      rw [if_neg hij] at hR
      split at hR
      · rw [hR.2]; exact hT'
      · rw [hR.cell (p := ⟨g, 0, none⟩) (cell_lt hT')]; exact hT'
    · exact hT
    · have hT' : W.cell? ⟨g, 1, none⟩ = some (f 8) := hT
      show W'.cell? ⟨g, 1, none⟩ = some (f 8)
      by_cases h7 : i = 7
      · subst h7
        exact (show Onto g W W' ∧ W'.cell? ⟨g, 1, none⟩ = W.cell? ⟨g, 1, none⟩ from hR).2.trans hT'
      · have h9 : i ≠ 9 := hij
        simp only [Rc, h7, h9, if_false] at hR
        rw [hR.cell (p := ⟨g, 1, none⟩) (cell_lt hT')]; exact hT'
    · simp [Tc]
theorem Rc.below {g i : Nat} {W W' : World} (h : Below W.heap.size W W') (h7 : i ≠ 7) (h9 : i ≠ 9) : Rc g i W W' := by
  unfold Rc; rw [if_neg h7, if_neg h9]; exact h
theorem Gc.below {w W W' : World} {g g2 : Nat} {m : Mc} (h : Gc w g g2 m W) (hb : Below W.heap.size W W') : Gc w g g2 m W' := by
  obtain ⟨⟨x, y, r, h1, h2, h3, h4⟩, ⟨x0, y0, m0, r0⟩, h5, h6⟩ := h
  exact ⟨⟨x, y, r.below hb, h1.below hb, h2.below hb, h3, h4⟩, ⟨x0, y0, m0, r0.below hb⟩, below_more h5 hb, by have := hb.size; omega⟩
theorem Gc.drew {w W : World} {g g2 : Nat} {m : Mc} (h : Gc w g g2 m W) : Gc w g g2 m W.drew := h.below (drew_below (n := 1) rfl)
set_option maxRecDepth 20000 in
set_option maxHeartbeats 1000000 in
theorem machineCopy_impl (v : Value) (m : Mc) (w : World) (hm : MSl w v m) (h1 : m.rom.length ≤ 4000000) (h2 : m.ram.length ≤ 4000000) (h3 : 0 < m.rom.length) (h4 : 0 < m.ram.length) :
    Calls Tryz.prog 30 #[v] w fun e w' => ∃ v', e = .returned v' ∧ MOwn w.heap.size w' v' m ∧ Below w.heap.size w w' := by
  obtain ⟨vr, va, rfl, hr, ha⟩ := hm
  obtain ⟨vv, hvv⟩ : ∃ vv, m.val vr va = vv := ⟨_, rfl⟩
  rw [hvv]
  go_enter Tryz.func30, Tryz.ntmps30
  go_wp2_with (first
    | (refine box_m rfl rfl hvv.symm ?_; intro w0 r0 hB0; have l0 := r0.lt)
    | (refine al_mc rfl rfl ?_; intro w1 z1 hB1))
  have hgz := z1.lt
  have r1 := r0.below hB1
  have hB := hB0.trans (hB1.mono hB0.size)
  have hG : Gc w w.heap.size w0.heap.size m w1 := ⟨⟨vr, va, r1, hr.below hB, ha.below hB, fun e => by have := hr.lt h3 _ e; omega, fun e => by have := ha.lt h4 _ e; omega⟩, ⟨_, _, _, z1⟩, hB, hgz⟩
  clear r0 hB0 z1 hB1 r1 hB hr ha hgz
  refine region_gen (by kernel_rfl) (by kernel_rfl) (fun W => Gc w w.heap.size w0.heap.size m W) (Tc (w0.heap.size + 1) w.heap.size m) (Rc w.heap.size) (mono_c (by omega) (by kernel_rfl)) hG.drew ?step ?done
  case step =>
    intro L ix o A W hi hI hL hd
    have hin : ix < 10 := by
      by_cases hl : ix < 10
      · exact hl
      · simp [hl] at hi
    have hsz : A.tmps.size = 12 := hI.size
    have hg := hI.g
    obtain ⟨x, y, hrow, hx, hy, hxg, hyg⟩ := hg.row
    have hlt := hg.lt
    have e1 : A.eval (.tmp 1) = .pointer (some ⟨w.heap.size, 0, none⟩) := hI.old 1 (by kernel_rfl)
    rcases ix with _ | ix
    · obtain rfl := (Option.some.inj hi).symm
      refine at_op rfl rfl (val_op (v := .pointer (some ⟨w.heap.size, 0, none⟩)) ?_ ⟨_, rfl, getD_put_same _ _ _ (by omega), hg, Rc.below (Below.refl _ _) (by omega) (by omega)⟩)
      unfold execOp
      simp only [List.getElem_toArray, List.getElem_cons_zero, List.getElem_cons_succ, e1]
      simp [go_sem]
    rcases ix with _ | ix
    · obtain rfl := (Option.some.inj hi).symm
      have e : A.eval (.tmp 3) = .pointer (some ⟨w.heap.size, 0, none⟩) := hI.get hd 0 rfl (by kernel_rfl)
      refine at_op rfl rfl (loads_op rfl e (cw hrow).vr ⟨_, rfl, ?_, hg, Rc.below (Below.refl _ _) (by omega) (by omega)⟩)
      have e' : at_ (A.put (some 4) x) 4 = x := getD_put_same _ _ _ (by omega)
      show Sl W (at_ (A.put (some 4) x) 4) _ ∧ (at_ (A.put (some 4) x) 4).ownBlock ≠ _
      rw [e']
      exact ⟨hx, hxg⟩
    rcases ix with _ | ix
    · obtain rfl := (Option.some.inj hi).symm
      have t : Sl W (at_ A 4) m.rom ∧ _ := hI.get hd 1 rfl (by kernel_rfl)
      refine at_op rfl rfl (call_op rfl Tryz.func58 (by kernel_rfl) (by kernel_rfl) ?_)
      simp only [List.map_cons, List.map_nil]
      refine (clone_any (at_ A 4) m.rom W t.1 (by omega)).mono ?_
      rintro e w5 ⟨v5, rfl, ho5, hb5⟩
      have e' : at_ (A.put (some 5) v5) 5 = v5 := getD_put_same _ _ _ (by omega)
      refine ⟨_, rfl, _, rfl, ?_, hg.below hb5, Rc.below hb5 (by omega) (by omega)⟩
      show Own _ _ (at_ (A.put (some 5) v5) 5) _
      rw [e']
      exact ho5.mono (by omega)
    rcases ix with _ | ix
    · obtain rfl := (Option.some.inj hi).symm
      refine at_op rfl rfl (val_op (v := .pointer (some ⟨w.heap.size, 1, none⟩)) ?_ ⟨_, rfl, getD_put_same _ _ _ (by omega), hg, Rc.below (Below.refl _ _) (by omega) (by omega)⟩)
      unfold execOp
      simp only [List.getElem_toArray, List.getElem_cons_zero, List.getElem_cons_succ, e1]
      simp [go_sem]
    rcases ix with _ | ix
    · obtain rfl := (Option.some.inj hi).symm
      have e : A.eval (.tmp 6) = .pointer (some ⟨w.heap.size, 1, none⟩) := hI.get hd 3 rfl (by kernel_rfl)
      refine at_op rfl rfl (loads_op rfl e (cw hrow).va ⟨_, rfl, ?_, hg, Rc.below (Below.refl _ _) (by omega) (by omega)⟩)
      have e' : at_ (A.put (some 7) y) 7 = y := getD_put_same _ _ _ (by omega)
      show Sl W (at_ (A.put (some 7) y) 7) _ ∧ (at_ (A.put (some 7) y) 7).ownBlock ≠ _
      rw [e']
      exact ⟨hy, hyg⟩
    rcases ix with _ | ix
    · obtain rfl := (Option.some.inj hi).symm
      have t : Sl W (at_ A 7) m.ram ∧ _ := hI.get hd 4 rfl (by kernel_rfl)
      refine at_op rfl rfl (call_op rfl Tryz.func58 (by kernel_rfl) (by kernel_rfl) ?_)
      simp only [List.map_cons, List.map_nil]
      refine (clone_any (at_ A 7) m.ram W t.1 (by omega)).mono ?_
      rintro e w5 ⟨v5, rfl, ho5, hb5⟩
      have e' : at_ (A.put (some 8) v5) 8 = v5 := getD_put_same _ _ _ (by omega)
      have t2 : Own _ W (at_ A 5) m.rom := hI.get hd 2 rfl (by kernel_rfl)
      have e5 : at_ (A.put (some 8) v5) 5 = at_ A 5 := getD_put _ _ _ _ (by simp)
      refine ⟨_, rfl, _, rfl, ?_, hg.below hb5, Rc.below hb5 (by omega) (by omega)⟩
      show Own _ _ (at_ (A.put (some 8) v5) 8) _ ∧ Apart (at_ (A.put (some 8) v5) 5) (at_ (A.put (some 8) v5) 8)
      rw [e', e5]
      exact ⟨ho5.mono (by omega), fun k hk hk' => by have := (t2.lt k hk).2; have := (ho5.lt k hk').1; omega⟩
    rcases ix with _ | ix
    · obtain rfl := (Option.some.inj hi).symm
      refine at_op rfl rfl (val_op (v := .pointer (some ⟨w.heap.size, 0, none⟩)) ?_ ⟨_, rfl, getD_put_same _ _ _ (by omega), hg, Rc.below (Below.refl _ _) (by omega) (by omega)⟩)
      unfold execOp
      simp only [List.getElem_toArray, List.getElem_cons_zero, List.getElem_cons_succ, e1]
      simp [go_sem]
    rcases ix with _ | ix
    · obtain rfl := (Option.some.inj hi).symm
      have ep : A.eval (.tmp 9) = .pointer (some ⟨w.heap.size, 0, none⟩) := hI.get hd 6 rfl (by kernel_rfl)
      have t : Own _ W (at_ A 5) m.rom := hI.get hd 2 rfl (by kernel_rfl)
      refine at_op rfl rfl (sw_in rfl ep (show A.eval (.tmp 5) = at_ A 5 from rfl) hrow (one_own t) info_s (by rw [Mc.size]; omega) ?_)
      intro W' r0' ho'
      have r' : MRow W' w.heap.size (at_ A 5) y m := r0'
      obtain ⟨x0, y0, m0, z0⟩ := hg.out
      refine ⟨_, rfl, ?_, ⟨⟨at_ A 5, y, r', (t.onto ho' (fun e => by have := (t.lt _ e).1; omega)).sl, sl_onto hy ho' hyg, fun e => by have := (t.lt _ e).1; omega, hyg⟩, ⟨x0, y0, m0, z0.onto ho' (by omega)⟩, below_onto hg.bel ho' (Nat.le_refl _), by have := ho'.size; omega⟩, ?_⟩
      · exact (cw r').vr
      · unfold Rc
        simp only [if_true]
        exact ⟨ho', (cw r').va.trans (cw hrow).va.symm⟩
    rcases ix with _ | ix
    · obtain rfl := (Option.some.inj hi).symm
      refine at_op rfl rfl (val_op (v := .pointer (some ⟨w.heap.size, 1, none⟩)) ?_ ⟨_, rfl, getD_put_same _ _ _ (by omega), hg, Rc.below (Below.refl _ _) (by omega) (by omega)⟩)
      unfold execOp
      simp only [List.getElem_toArray, List.getElem_cons_zero, List.getElem_cons_succ, e1]
      simp [go_sem]
    rcases ix with _ | ix
    · obtain rfl := (Option.some.inj hi).symm
      have ep : A.eval (.tmp 10) = .pointer (some ⟨w.heap.size, 1, none⟩) := hI.get hd 8 rfl (by kernel_rfl)
      have t : Own _ W (at_ A 8) m.ram := (show Own _ W (at_ A 8) m.ram ∧ _ from hI.get hd 5 rfl (by kernel_rfl)).1
      refine at_op rfl rfl (sw_in rfl ep (show A.eval (.tmp 8) = at_ A 8 from rfl) hrow (one_own t) info_s (by rw [Mc.size]; omega) ?_)
      intro W' r0' ho'
      have r' : MRow W' w.heap.size x (at_ A 8) m := r0'
      obtain ⟨x0, y0, m0, z0⟩ := hg.out
      refine ⟨_, rfl, ?_, ⟨⟨x, at_ A 8, r', sl_onto hx ho' hxg, (t.onto ho' (fun e => by have := (t.lt _ e).1; omega)).sl, hxg, fun e => by have := (t.lt _ e).1; omega⟩, ⟨x0, y0, m0, z0.onto ho' (by omega)⟩, below_onto hg.bel ho' (Nat.le_refl _), by have := ho'.size; omega⟩, ?_⟩
      · exact (cw r').va
      · unfold Rc
        simp only [if_pos, if_neg, reduceCtorEq, if_true, if_false, Nat.reduceEqDiff]
        exact ⟨ho', (cw r').vr.trans (cw hrow).vr.symm⟩
    omega
  case done =>
    intro A W hI
    have hg := hI.g
    obtain ⟨x, y, hrow, hx, hy, hxg, hyg⟩ := hg.row
    obtain ⟨x0, y0, m0, z0⟩ := hg.out
    have hlt := hg.lt
    have t2 : Own _ W (at_ A 5) m.rom := hI.told 2 _ rfl rfl
    have t5 : Own _ W (at_ A 8) m.ram ∧ Apart (at_ A 5) (at_ A 8) := hI.told 5 _ rfl rfl
    have t7 : W.cell? ⟨w.heap.size, 0, none⟩ = some (at_ A 5) := hI.told 7 _ rfl rfl
    have t9 : W.cell? ⟨w.heap.size, 1, none⟩ = some (at_ A 8) := hI.told 9 _ rfl rfl
    obtain rfl : x = at_ A 5 := Option.some.inj ((cw hrow).vr.symm.trans t7)
    obtain rfl : y = at_ A 8 := Option.some.inj ((cw hrow).va.symm.trans t9)
    have e1 : A.tmps.getD 1 undef = .pointer (some ⟨w.heap.size, 0, none⟩) := hI.old 1 (by kernel_rfl)
    have e2 : A.tmps.getD 2 undef = .pointer (some ⟨w0.heap.size, 0, none⟩) := hI.old 2 (by kernel_rfl)
    clear t7 t9 hx hy hxg hyg
    generalize at_ A 5 = x at *
    generalize at_ A 8 = y at *
    have hB := hg.bel
    have hA := frame_lit A 12 hI.size
    have hde : A.defers = [] := hI.defers
    rw [hde, show List.range 12 = [0, 1, 2, 3, 4, 5, 6, 7, 8, 9, 10, 11] from rfl] at hA
    simp only [List.map_cons, List.map_nil, e1, e2] at hA
    rw [hA]
    clear hA e1 e2 hI hde hg
    go_wp2_with (first
      | (refine ld_mc rfl rfl rfl hrow ?_)
      | (refine st_mc rfl rfl rfl rfl z0 (one_own t2) (one_own t5.1) ?_; intro w6 r6 o6 s6))
    refine ret_mc rfl rfl r6 rfl ?_
    refine ⟨_, rfl, ⟨x, y, rfl, ?_, ?_, t5.2⟩, below_onto hB o6 (by omega)⟩
    · exact (t2.onto o6 (fun e => by have := (t2.lt _ e).1; omega)).mono (by omega)
    · exact (t5.1.onto o6 (fun e => by have := (t5.1.lt _ e).1; omega)).mono (by omega)
end Go.Proofs.YtocofjimkfffeaaGreatDoor.Mem
