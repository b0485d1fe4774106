/-
  What the draw of any machine gives.
-/
import Derived.Test.YtocofjimkfffeaaGreatDoorMcDraw3
namespace Go.Proofs.YtocofjimkfffeaaGreatDoor.Mem
open Go.ChangeShapes Go.WideShapes Go.RowKit Base Draw Slc Num Rw Tmr Srl Rom RomOf Reg
set_option linter.unusedVariables false
set_option linter.unusedSimpArgs false

/-- A drawn machine: its lists read, and lie in new memory. -/
structure MDr (base : Nat) (W : World) (x y : Value) (M : Mc) : Prop where
  o1 : Own base W x M.rom
  s2 : Sl W y M.ram
  b1 : ∀ k, x.ownBlock = some k → base ≤ k
  b2 : ∀ k, y.ownBlock = some k → base ≤ k
  l0 : 2 ≤ M.rom.length
  l1 : M.rom.length ≤ 128
  l2 : M.ram.length ≤ 64
  pc : 0 ≤ M.pc ∧ M.pc ≤ 255
  ap : Apart x y
  m0 : 0 < M.ram.length
theorem MDr.below {base : Nat} {W W' : World} {x y : Value} {M : Mc} (h : MDr base W x y M) (hb : Below W.heap.size W W') : MDr base W' x y M := ⟨h.o1.below hb, h.s2.below hb, h.b1, h.b2, h.l0, h.l1, h.l2, h.pc, h.ap, h.m0⟩
theorem MDr.s1 {base : Nat} {W : World} {x y : Value} {M : Mc} (h : MDr base W x y M) : Sl W x M.rom := h.o1.sl
theorem MDr.onto {base g : Nat} {W W' : World} {x y : Value} {M : Mc} (h : MDr base W x y M) (ho : Onto g W W') (hg : g < base) : MDr base W' x y M :=
  ⟨h.o1.onto ho (fun e => by have := h.b1 _ e; omega), sl_onto h.s2 ho (fun e => by have := h.b2 _ e; omega), h.b1, h.b2, h.l0, h.l1, h.l2, h.pc, h.ap, h.m0⟩
theorem MDr.zero {base : Nat} {W : World} {x y : Value} {M : Mc} (h : MDr base W x y M) : MDr 0 W x y M := ⟨h.o1.mono (Nat.zero_le _), h.s2, fun _ _ => Nat.zero_le _, fun _ _ => Nat.zero_le _, h.l0, h.l1, h.l2, h.pc, h.ap, h.m0⟩
theorem sl_tail {base b n c : Nat} {W : World} {l : List Int} (h : Own base W (.slice (some ⟨b, 0, none⟩) n c) l) (hn : 1 ≤ n) (hc : n ≤ c) (hm : c ≤ maxLen) : Sl W (.slice (some ⟨b, 1, none⟩) (n - 1) (c - 1)) (l.drop 1) := by
  have hl : l.length = n := by
    obtain ⟨a, c', he, _⟩ := h.shape
    simp only [Value.slice.injEq] at he
    exact he.2.1.symm
  have hb := (h.lt b rfl).2
  refine ⟨some ⟨b, 1, none⟩, c - 1, by simp [hl], ⟨by simp, ?_⟩, by simp; omega, by omega, by simp⟩
  refine .inr ⟨b, 1, rfl, hb, fun i hi => ?_⟩
  simp at hi
  have := h.cellAt (j := 1 + i) (by omega)
  rw [this]
  simp [List.getD_eq_getElem?_getD, List.getElem?_drop, Nat.add_comm]
set_option maxRecDepth 100000 in
set_option maxHeartbeats 8000000 in
theorem l6DrawAny_any {w0 : World} {p : Nat} {a : Option Addr} {len cap : Nat} (w : World) (h0 : Drawn p a len cap w0 w) :
    Calls Tryz.prog 26 #[.pointer (some ⟨p, 0, none⟩)] w fun e w' => ∃ x y M, e = .returned (Mc.val x y M) ∧ MDr (w.heap.size + 1) w' x y M ∧ Onto p w w' ∧ Drawn p a len cap w0 w' := by
  have hend : ∀ w', Drawn p a len cap w w' → Onto p w w' ∧ Drawn p a len cap w0 w' := fun w' hd => ⟨hd.onto, h0.onto.trans hd.onto, hd.cur⟩
  have h := h0.cur.drawn
  have hOldC : OldC p a len w := ⟨h0.cur.lt, h0.cur.code.lt⟩
  have hpw := h0.cur.lt
  go_enter Tryz.func26, Tryz.ntmps26
  go_wp2_with (refine al_mc rfl rfl ?_; intro w1 z1 hB1; have l1 := z1.lt)
  go_at_call 59
  refine (l6Draw_any _ (h.below hB1)).mono ?_
  rintro e w2 ⟨x, y, M0, rfl, ⟨hq1, hq2, hq3, hx, hy, hxy, hpc⟩, hon2, hd2⟩
  have z2 := z1.onto hon2 (by omega)
  have s2 := hon2.size
  have hxl := hx.lt
  have hyl := hy.lt
  obtain ⟨gy, cy, rfl, hgy1, hgy2, hgy3, hgy4⟩ := hy.block (by omega)
  obtain ⟨gx, cx, rfl, hgx1, hgx2, hgx3, hgx4⟩ := hx.block (by omega)
  have HR : Hid (M0.ram.length = 64) := hq3
  have HRam : Hid (M0.ram.length = 64) := hq3
  generalize M0.ram.length = ny at HR hy hyl hxy hq3 hgy3
  have hny := HR.out
  subst hny
  generalize hnx : M0.rom.length = nx at hx hxl hxy hq1 hq2 hgx3
  have HN : Hid (M0.rom.length = nx) := hnx
  clear hnx HR
  unfold maxLen at hgy4
  clear z1 hq3
  go_wp2_with (first
    | (refine al_mc rfl rfl ?_; intro w3 z3 hB3; have r3 := z2.below hB3; have x3 := hx.below hB3; have y3 := hy.below hB3; have hd3 := hd2.below hB3; have l3 := z3.lt)
    | (refine st_mc rfl rfl rfl rfl z3 rfl rfl ?_; rintro w4 z4 o4 -; have hS : Md w p a len cap (w1.heap.size + 1) w2.heap.size w.heap.size (.slice (some ⟨gx, 0, none⟩) nx cx) (.slice (some ⟨gy, 0, none⟩) 64 cy) w4 := ⟨drawn_other hd3 o4 (by omega) hOldC, ⟨_, z4, hpc⟩, ⟨_, _, _, r3.onto o4 (by omega)⟩, ⟨_, by have := HN.out; omega, by have := HN.out; omega, x3.onto o4 (fun e => by have := hxl _ e; omega)⟩, ⟨_, HRam.out, y3.onto o4 (fun e => by have := hyl _ e; omega)⟩⟩; have hP : Pm w p a len (w1.heap.size + 1) w2.heap.size w.heap.size (.slice (some ⟨gx, 0, none⟩) nx cx) (.slice (some ⟨gy, 0, none⟩) 64 cy) := ⟨hOldC, hpw, Nat.le_refl _, by omega, by omega, fun k hk => by have := hxl k hk; omega, fun k hk => by have := hyl k hk; omega, hxy⟩; clear z3 r3 x3 y3 hd3 z4 o4))
  go_at_call 27
  refine (Draw.once_any _ _ hS.drawn (by omega)).mono ?_
  rintro e w9 ⟨r9, rfl, ho9, hd9⟩
  replace hS := hS.onto hP ho9 hd9
  clear ho9 hd9
  cases r9
  · skip
    go_wp2_with (first
      | (obtain ⟨M, hM, hMp⟩ := hS.row; refine ld_mc rfl rfl rfl hM ?_)
      | (obtain ⟨x', y', M', hR⟩ := hS.res; obtain ⟨l1', q1, q2, hO1⟩ := hS.o1; obtain ⟨l2', q3, hO2⟩ := hS.o2; have hD := hS.drawn; refine st_mc rfl rfl rfl rfl hR (one_own hO1) (one_own hO2) ?_; rintro w7 r7 o7 -))
    refine ret_mc rfl rfl r7 rfl ?_
    have hn2 := hP.n2
    have hf1 := hO1.onto o7 (fun e => by have := (hO1.lt _ e).1; omega)
    have hf2 := hO2.onto o7 (fun e => by have := (hO2.lt _ e).1; omega)
    exact ⟨_, _, { M with rom := l1', ram := l2' }, rfl, ⟨hf1.mono (by omega), hf2.sl, fun k hk => by have := (hf1.lt k hk).1; omega, fun k hk => by have := (hf2.lt k hk).1; omega, by show 2 ≤ l1'.length; omega, by show l1'.length ≤ _; omega, by show l2'.length ≤ _; omega, hMp, hP.ap, by show 0 < l2'.length; omega⟩, hend _ (drawn_other hD o7 (Nat.le_refl _) hOldC)⟩
  · go_wp2_with fail
    go_at_call 28
    refine (Draw.below_any _ _ hS.drawn (by omega)).mono ?_
    rintro e w9 ⟨r9, rfl, hr9, ho9, hd9⟩
    replace hS := hS.onto hP ho9 hd9
    clear ho9 hd9
    have h8 : r9 = 0 ∨ r9 = 1 ∨ r9 = 2 ∨ r9 = 3 ∨ r9 = 4 ∨ r9 = 5 ∨ r9 = 6 ∨ r9 = 7 := by omega
    clear hr9
    rcases h8 with rfl | rfl | rfl | rfl | rfl | rfl | rfl | rfl
    · go_wp2_with fail
      refine region_by (by kernel_rfl) (by kernel_rfl) (fun W => Md w p a len cap (w1.heap.size + 1) w2.heap.size w.heap.size (.slice (some ⟨gx, 0, none⟩) nx cx) (.slice (some ⟨gy, 0, none⟩) 64 cy) W)
        (kinds [KIs (.pointer (some ⟨w2.heap.size, 0, none⟩)), KIs (.slice (some ⟨gx, 0, none⟩) nx cx), KIs (.pointer (some ⟨p, 0, none⟩)), KInt, KIs (.pointer (some ⟨gx, 0, none⟩)), KAny])
        (Rel fun _ => True) (by kernel_rfl) (kinds_mono ?mono) hS.drew ?step ?done
      case mono =>
        intro K hK
        simp only [List.mem_cons, List.not_mem_nil, or_false] at hK
        rcases hK with rfl | rfl | rfl | rfl | rfl | rfl
        all_goals first | exact bears_is _ _ | exact bears_any _ | exact bears_int _
      case step =>
        intro L ix o A W hi hI hL hd
        have hin : ix < 6 := by
          by_cases hl : ix < 6
          · exact hl
          · simp [hl] at hi
        have hsz : A.tmps.size = 61 := hI.size
        have hS := hI.g
        rcases ix with _ | ix
        · obtain rfl := (Option.some.inj hi).symm
          have e : A.eval (.tmp 3) = .pointer (some ⟨w2.heap.size, 0, none⟩) := hI.old 3 (by kernel_rfl)
          refine at_op rfl rfl (val_op (v := .pointer (some ⟨w2.heap.size, 0, none⟩)) ?_ ⟨_, rfl, rfl, hS, Rel.refl _ _⟩)
          unfold execOp
          simp only [List.getElem_toArray, List.getElem_cons_zero, e]
          simp [go_sem]
        rcases ix with _ | ix
        · obtain rfl := (Option.some.inj hi).symm
          have e : A.eval (.tmp 12) = .pointer (some ⟨w2.heap.size, 0, none⟩) := hI.get hd 0 12 rfl (by kernel_rfl)
          obtain ⟨M, hM, hMp⟩ := hS.row
          exact at_op rfl rfl (loads_op rfl e (cw hM).vr ⟨_, rfl, rfl, hS, Rel.refl _ _⟩)
        rcases ix with _ | ix
        · obtain rfl := (Option.some.inj hi).symm
          have e : A.eval (.tmp 0) = .pointer (some ⟨p, 0, none⟩) := hI.old 0 (by kernel_rfl)
          exact at_op rfl rfl (move_op rfl ⟨_, rfl, e, hS, Rel.refl _ _⟩)
        rcases ix with _ | ix
        · obtain rfl := (Option.some.inj hi).symm
          have e0 : A.eval (.tmp 14) = .pointer (some ⟨p, 0, none⟩) := hI.get hd 2 14 rfl (by kernel_rfl)
          refine at_op rfl rfl (call_op rfl Tryz.func60 (by kernel_rfl) (by kernel_rfl) ?_)
          simp only [List.map_cons, List.map_nil, e0]
          refine (Draw.num_any 255 W hS.drawn (by omega) (by omega)).mono ?_
          rintro e w5 ⟨r, rfl, hr5, ho5, hdr5⟩
          exact ⟨_, rfl, _, rfl, ⟨r, rfl⟩, hS.onto hP ho5 hdr5, Rel.onto ho5 trivial⟩
        rcases ix with _ | ix
        · obtain rfl := (Option.some.inj hi).symm
          have e1 : A.eval (.tmp 13) = .slice (some ⟨gx, 0, none⟩) nx cx := hI.get hd 1 13 rfl (by kernel_rfl)
          exact at_op rfl rfl (index_op (r := 0) rfl und64 info_i e1 rfl (by omega) ⟨_, rfl, rfl, hS, Rel.refl _ _⟩)
        rcases ix with _ | ix
        · obtain rfl := (Option.some.inj hi).symm
          have er : A.eval (.tmp 16) = .pointer (some ⟨gx, 0, none⟩) := hI.get hd 4 16 rfl (by kernel_rfl)
          obtain ⟨z, ez⟩ : KInt (A.eval (.tmp 15)) W := hI.get hd 3 15 rfl (by kernel_rfl)
          obtain ⟨l1', q1, q2, hO1⟩ := hS.o1
          exact at_op rfl rfl (sto_op rfl er ez (hO1.cellAt (by omega)) (hO1.free 0) ⟨_, rfl, trivial, hS.cellX hP 0 _, Rel.onto ((Onto.refl gx W).setCell rfl _) trivial⟩)
        omega
      case done =>
        intro A W hI
        have hS := hI.g
        have hA := hI.frame [12, 13, 14, 15, 16] (by kernel_rfl)
        rw [hA]
        clear hA hI
        simp only [putAll, List.foldl_cons, List.foldl_nil]
        go_wp2_with (first
          | (obtain ⟨M, hM, hMp⟩ := hS.row; refine ld_mc rfl rfl rfl hM ?_)
          | (obtain ⟨x', y', M', hR⟩ := hS.res; obtain ⟨l1', q1, q2, hO1⟩ := hS.o1; obtain ⟨l2', q3, hO2⟩ := hS.o2; have hD := hS.drawn; refine st_mc rfl rfl rfl rfl hR (one_own hO1) (one_own hO2) ?_; rintro w7 r7 o7 -))
        refine ret_mc rfl rfl r7 rfl ?_
        have hn2 := hP.n2
        have hf1 := hO1.onto o7 (fun e => by have := (hO1.lt _ e).1; omega)
        have hf2 := hO2.onto o7 (fun e => by have := (hO2.lt _ e).1; omega)
        exact ⟨_, _, { M with rom := l1', ram := l2' }, rfl, ⟨hf1.mono (by omega), hf2.sl, fun k hk => by have := (hf1.lt k hk).1; omega, fun k hk => by have := (hf2.lt k hk).1; omega, by show 2 ≤ l1'.length; omega, by show l1'.length ≤ _; omega, by show l2'.length ≤ _; omega, hMp, hP.ap, by show 0 < l2'.length; omega⟩, hend _ (drawn_other hD o7 (Nat.le_refl _) hOldC)⟩
    · have hcy1 : (1 : Int) < (cy : Int) := by omega
      have hcy2 : (64 : Int) ≤ (cy : Int) := by omega
      obtain ⟨M, hM, hMp⟩ := hS.row
      obtain ⟨x', y', M', hR⟩ := hS.res
      obtain ⟨l1', q1, q2, hO1⟩ := hS.o1
      obtain ⟨l2', q3, hO2⟩ := hS.o2
      have hD := hS.drawn
      have kva := (cw hM).va
      have hn1 := hP.n1
      have hn2 := hP.n2
      have hn3 := hP.n3
      clear hS
      go_wp2_with (first
        | (refine st_ram (v := .slice (some ⟨gy, 1, none⟩) 63 (cy - 1)) rfl rfl rfl rfl hM rfl [] ?_; rintro w8 r8 o8 -; have hR8 := hR.onto o8 (by omega); have hD8 := drawn_other hD o8 (by omega) hOldC; have hO18 := hO1.onto o8 (fun e => by have := hP.bx _ e; omega); have hO28 := hO2.onto o8 (fun e => by have := hP.b_y _ e; omega))
        | (refine ld_mc rfl rfl rfl r8 ?_)
        | (refine st_mc rfl rfl rfl rfl hR8 rfl rfl ?_; rintro w7 r7 o7 -))
      refine ret_mc rfl rfl r7 rfl ?_
      have hf1 := hO18.onto o7 (fun e => by have := (hO18.lt _ e).1; omega)
      have hf2 := hO28.onto o7 (fun e => by have := (hO28.lt _ e).1; omega)
      have ht2 := sl_tail hf2 (by omega) hgy3 (by unfold maxLen; omega)
      exact ⟨_, _, { M with rom := l1', ram := l2'.drop 1 }, rfl, ⟨hf1.mono (by omega), ht2, fun k hk => by have := (hf1.lt k hk).1; omega, fun k hk => by have hbb := hP.b_y gy rfl; have hkk : gy = k := Option.some.inj hk; omega, by show 2 ≤ l1'.length; omega, by show l1'.length ≤ _; omega, by show (l2'.drop 1).length ≤ _; simp; omega, hMp, fun k h1 h2 => hP.ap k h1 h2, by show 0 < (l2'.drop 1).length; simp; omega⟩, hend _ (drawn_other hD8 o7 (Nat.le_refl _) hOldC)⟩
    · skip
      go_wp2_with (first
        | (go_at_call 60; refine (Draw.num_any _ _ hS.drawn (by omega) (by omega)).mono ?_; rintro e w9 ⟨z9, rfl, hz9, ho9, hd9⟩; replace hS := hS.onto hP ho9 hd9; clear ho9 hd9)
        | (refine st_numA rfl rfl rfl rfl hS.row rfl (by omega) ?_; intro w8 hr8 o8; replace hS := hS.field hP o8 hr8; clear hr8 o8)
        | (obtain ⟨M, hM, hMp⟩ := hS.row; refine ld_mc rfl rfl rfl hM ?_)
        | (obtain ⟨x', y', M', hR⟩ := hS.res; obtain ⟨l1', q1, q2, hO1⟩ := hS.o1; obtain ⟨l2', q3, hO2⟩ := hS.o2; have hD := hS.drawn; refine st_mc rfl rfl rfl rfl hR (one_own hO1) (one_own hO2) ?_; rintro w7 r7 o7 -))
      refine ret_mc rfl rfl r7 rfl ?_
      have hn2 := hP.n2
      have hf1 := hO1.onto o7 (fun e => by have := (hO1.lt _ e).1; omega)
      have hf2 := hO2.onto o7 (fun e => by have := (hO2.lt _ e).1; omega)
      exact ⟨_, _, { M with rom := l1', ram := l2' }, rfl, ⟨hf1.mono (by omega), hf2.sl, fun k hk => by have := (hf1.lt k hk).1; omega, fun k hk => by have := (hf2.lt k hk).1; omega, by show 2 ≤ l1'.length; omega, by show l1'.length ≤ _; omega, by show l2'.length ≤ _; omega, hMp, hP.ap, by show 0 < l2'.length; omega⟩, hend _ (drawn_other hD o7 (Nat.le_refl _) hOldC)⟩
    · skip
      go_wp2_with (first
        | (go_at_call 61; refine (from_any _ _ _ hS.drawn (by omega) (by omega) (by omega)).mono ?_; rintro e w9 ⟨z9, rfl, hz9, ho9, hd9⟩; replace hS := hS.onto hP ho9 hd9; clear ho9 hd9)
        | (refine st_numA rfl rfl rfl rfl hS.row rfl (by omega) ?_; intro w8 hr8 o8; replace hS := hS.field hP o8 hr8; clear hr8 o8)
        | (obtain ⟨M, hM, hMp⟩ := hS.row; refine ld_mc rfl rfl rfl hM ?_)
        | (obtain ⟨x', y', M', hR⟩ := hS.res; obtain ⟨l1', q1, q2, hO1⟩ := hS.o1; obtain ⟨l2', q3, hO2⟩ := hS.o2; have hD := hS.drawn; refine st_mc rfl rfl rfl rfl hR (one_own hO1) (one_own hO2) ?_; rintro w7 r7 o7 -))
      refine ret_mc rfl rfl r7 rfl ?_
      have hn2 := hP.n2
      have hf1 := hO1.onto o7 (fun e => by have := (hO1.lt _ e).1; omega)
      have hf2 := hO2.onto o7 (fun e => by have := (hO2.lt _ e).1; omega)
      exact ⟨_, _, { M with rom := l1', ram := l2' }, rfl, ⟨hf1.mono (by omega), hf2.sl, fun k hk => by have := (hf1.lt k hk).1; omega, fun k hk => by have := (hf2.lt k hk).1; omega, by show 2 ≤ l1'.length; omega, by show l1'.length ≤ _; omega, by show l2'.length ≤ _; omega, hMp, hP.ap, by show 0 < l2'.length; omega⟩, hend _ (drawn_other hD o7 (Nat.le_refl _) hOldC)⟩
    · skip
      go_wp2_with (first
        | (go_at_call 62; refine (l4DrawAny_any _ hS.drawn).mono ?_; rintro e w9 ⟨t9, rfl, ho9, hd9⟩; replace hS := hS.onto hP ho9 hd9; clear ho9 hd9)
        | (refine st_timeA rfl rfl rfl rfl hS.row ?_; intro w8 hr8 o8; replace hS := hS.field hP o8 hr8; clear hr8 o8)
        | (obtain ⟨M, hM, hMp⟩ := hS.row; refine ld_mc rfl rfl rfl hM ?_)
        | (obtain ⟨x', y', M', hR⟩ := hS.res; obtain ⟨l1', q1, q2, hO1⟩ := hS.o1; obtain ⟨l2', q3, hO2⟩ := hS.o2; have hD := hS.drawn; refine st_mc rfl rfl rfl rfl hR (one_own hO1) (one_own hO2) ?_; rintro w7 r7 o7 -))
      refine ret_mc rfl rfl r7 rfl ?_
      have hn2 := hP.n2
      have hf1 := hO1.onto o7 (fun e => by have := (hO1.lt _ e).1; omega)
      have hf2 := hO2.onto o7 (fun e => by have := (hO2.lt _ e).1; omega)
      exact ⟨_, _, { M with rom := l1', ram := l2' }, rfl, ⟨hf1.mono (by omega), hf2.sl, fun k hk => by have := (hf1.lt k hk).1; omega, fun k hk => by have := (hf2.lt k hk).1; omega, by show 2 ≤ l1'.length; omega, by show l1'.length ≤ _; omega, by show l2'.length ≤ _; omega, hMp, hP.ap, by show 0 < l2'.length; omega⟩, hend _ (drawn_other hD o7 (Nat.le_refl _) hOldC)⟩
    · skip
      go_wp2_with (first
        | (go_at_call 63; refine (l5DrawAny_any _ hS.drawn).mono ?_; rintro e w9 ⟨s9, rfl, ho9, hd9⟩; replace hS := hS.onto hP ho9 hd9; clear ho9 hd9)
        | (refine st_portA rfl rfl rfl rfl hS.row ?_; intro w8 hr8 o8; replace hS := hS.field hP o8 hr8; clear hr8 o8)
        | (obtain ⟨M, hM, hMp⟩ := hS.row; refine ld_mc rfl rfl rfl hM ?_)
        | (obtain ⟨x', y', M', hR⟩ := hS.res; obtain ⟨l1', q1, q2, hO1⟩ := hS.o1; obtain ⟨l2', q3, hO2⟩ := hS.o2; have hD := hS.drawn; refine st_mc rfl rfl rfl rfl hR (one_own hO1) (one_own hO2) ?_; rintro w7 r7 o7 -))
      refine ret_mc rfl rfl r7 rfl ?_
      have hn2 := hP.n2
      have hf1 := hO1.onto o7 (fun e => by have := (hO1.lt _ e).1; omega)
      have hf2 := hO2.onto o7 (fun e => by have := (hO2.lt _ e).1; omega)
      exact ⟨_, _, { M with rom := l1', ram := l2' }, rfl, ⟨hf1.mono (by omega), hf2.sl, fun k hk => by have := (hf1.lt k hk).1; omega, fun k hk => by have := (hf2.lt k hk).1; omega, by show 2 ≤ l1'.length; omega, by show l1'.length ≤ _; omega, by show l2'.length ≤ _; omega, hMp, hP.ap, by show 0 < l2'.length; omega⟩, hend _ (drawn_other hD o7 (Nat.le_refl _) hOldC)⟩
    · skip
      go_wp2_with (first
        | (refine ld_numA (k := 24) rfl rfl rfl hS.row rfl ?_; intro z9)
        | (refine st_numA rfl rfl rfl rfl hS.row rfl (by omega) ?_; intro w8 hr8 o8; replace hS := hS.field hP o8 hr8; clear hr8 o8)
        | (obtain ⟨M, hM, hMp⟩ := hS.row; refine ld_mc rfl rfl rfl hM ?_)
        | (obtain ⟨x', y', M', hR⟩ := hS.res; obtain ⟨l1', q1, q2, hO1⟩ := hS.o1; obtain ⟨l2', q3, hO2⟩ := hS.o2; have hD := hS.drawn; refine st_mc rfl rfl rfl rfl hR (one_own hO1) (one_own hO2) ?_; rintro w7 r7 o7 -))
      refine ret_mc rfl rfl r7 rfl ?_
      have hn2 := hP.n2
      have hf1 := hO1.onto o7 (fun e => by have := (hO1.lt _ e).1; omega)
      have hf2 := hO2.onto o7 (fun e => by have := (hO2.lt _ e).1; omega)
      exact ⟨_, _, { M with rom := l1', ram := l2' }, rfl, ⟨hf1.mono (by omega), hf2.sl, fun k hk => by have := (hf1.lt k hk).1; omega, fun k hk => by have := (hf2.lt k hk).1; omega, by show 2 ≤ l1'.length; omega, by show l1'.length ≤ _; omega, by show l2'.length ≤ _; omega, hMp, hP.ap, by show 0 < l2'.length; omega⟩, hend _ (drawn_other hD o7 (Nat.le_refl _) hOldC)⟩
    · skip
      go_wp2_with (first
        | (go_at_call 28; refine (Draw.below_any _ _ hS.drawn (by omega)).mono ?_; rintro e w9 ⟨r9, rfl, hr9, ho9, hd9⟩; replace hS := hS.onto hP ho9 hd9; clear ho9 hd9)
        | (refine ld_numA (k := 14) rfl rfl rfl hS.row rfl ?_; intro z9)
        | (refine st_numA rfl rfl rfl rfl hS.row rfl (by omega) ?_; intro w8 hr8 o8; replace hS := hS.field hP o8 hr8; clear hr8 o8)
        | (obtain ⟨M, hM, hMp⟩ := hS.row; refine ld_mc rfl rfl rfl hM ?_)
        | (obtain ⟨x', y', M', hR⟩ := hS.res; obtain ⟨l1', q1, q2, hO1⟩ := hS.o1; obtain ⟨l2', q3, hO2⟩ := hS.o2; have hD := hS.drawn; refine st_mc rfl rfl rfl rfl hR (one_own hO1) (one_own hO2) ?_; rintro w7 r7 o7 -))
      refine ret_mc rfl rfl r7 rfl ?_
      have hn2 := hP.n2
      have hf1 := hO1.onto o7 (fun e => by have := (hO1.lt _ e).1; omega)
      have hf2 := hO2.onto o7 (fun e => by have := (hO2.lt _ e).1; omega)
      exact ⟨_, _, { M with rom := l1', ram := l2' }, rfl, ⟨hf1.mono (by omega), hf2.sl, fun k hk => by have := (hf1.lt k hk).1; omega, fun k hk => by have := (hf2.lt k hk).1; omega, by show 2 ≤ l1'.length; omega, by show l1'.length ≤ _; omega, by show l2'.length ≤ _; omega, hMp, hP.ap, by show 0 < l2'.length; omega⟩, hend _ (drawn_other hD o7 (Nat.le_refl _) hOldC)⟩
end Go.Proofs.YtocofjimkfffeaaGreatDoor.Mem
