/-
  What the draws of chapters 7 and 8 give.
-/
import Derived.Test.YtocofjimkfffeaaGreatDoorMcDraw5
namespace Go.Proofs.YtocofjimkfffeaaGreatDoor.Mem
open Go.ChangeShapes Go.WideShapes Go.RowKit Base Draw Slc Num Rw Tmr Srl Rom RomOf Reg
set_option linter.unusedVariables false
set_option linter.unusedSimpArgs false

section
variable {o : Oper} {a : Act} {w : World} {K : Act → World → Prop} {Q : Exit → Act → World → Prop} {x z : Operand}
/-- The length of a list, in a drawn region. -/
theorem len_op {ad : Option Addr} {n c : Nat} (ho : o.op = .call { callee := .builtin .len, args := #[x], argTypes := #[24] }) (hx : a.eval x = .slice ad n c) (h : K (a.put o.dst (.int .i64 (n : Int))) w) : o.wp Tryz.prog a w K Q := by
  refine val_op (v := .int .i64 (n : Int)) ?_ h
  clear h
  generalize a.eval = ev at hx ⊢
  unfold execOp
  simp only [ho]
  simp [go_sem, hx]
/-- The beginning of a list, in a drawn region. -/
theorem cut_op {b n c r : Nat} (ho : o.op = .slice 24 x none (some z) none) (hx : a.eval x = .slice (some ⟨b, 0, none⟩) n c) (hz : a.eval z = .int .i64 (r : Int)) (hr : r ≤ c) (hc : 0 < c) (h : K (a.put o.dst (.slice (some ⟨b, 0, none⟩) r c)) w) : o.wp Tryz.prog a w K Q := by
  refine val_op (v := .slice (some ⟨b, 0, none⟩) r c) ?_ h
  clear h
  generalize a.eval = ev at hx hz ⊢
  unfold execOp
  simp only [ho, hx]
  have hr' : ((r : Int) ≤ (c : Int)) := by omega
  simp [go_sem, hz, hr', hr]
  done
theorem subI (i j : Int) (x y : Operand) (w : World) (h0 : -9223372036854775808 ≤ i - j) (h1 : i - j ≤ 9223372036854775807) : (do eqGuard .sub 3 x y (.int .i64 i) (.int .i64 j); binOp .sub 3 (.int .i64 i) (.int .i64 j) : Sem Value).run Tryz.prog w = .ok (.int .i64 (i - j)) w := by
  have e : IntKind.i64.wrap (i - j) = i - j := by
    simp [IntKind.wrap, IntKind.bits, IntKind.signed]
    omega
  have : (do eqGuard .sub 3 x y (.int .i64 i) (.int .i64 j); binOp .sub 3 (.int .i64 i) (.int .i64 j) : Sem Value).run Tryz.prog w = .ok (.int .i64 (IntKind.i64.wrap (i - j))) w := by simp [go_sem]
  rw [this, e]
end
theorem MDr.mono {base base' : Nat} {W : World} {x y : Value} {M : Mc} (h : MDr base W x y M) (hb : base' ≤ base) : MDr base' W x y M := ⟨h.o1.mono hb, h.s2, fun k hk => Nat.le_trans hb (h.b1 k hk), fun k hk => Nat.le_trans hb (h.b2 k hk), h.l0, h.l1, h.l2, h.pc, h.ap, h.m0⟩
section
variable {w wd W W' : World} {p : Nat} {a : Option Addr} {len cap g gr base b n c : Nat} {x y : Value} {M : Mc}
/-- A cell of the rom is set. -/
theorem Gd.cellX (h : Gd w wd p a len cap g gr base (.slice (some ⟨b, 0, none⟩) n c) y M W) (hP : Pd w wd p a len g gr base) (hb : b < g) (hcode : 0 < len → ∀ x, a = some x → x.block < base) (j : Nat) (z : Int) :
    Gd w wd p a len cap g gr base (.slice (some ⟨b, 0, none⟩) n c) y { M with rom := M.rom.set j z } (W.setCell ⟨b, j, none⟩ (.int .i64 z)) := by
  have := hP.n0; have := hP.n1; have := hP.n2; have := hP.n3; have := hP.n4
  have hbb := h.md.b1 b rfl
  have ho : Onto b W (W.setCell ⟨b, j, none⟩ (.int .i64 z)) := (Onto.refl b W).setCell rfl _
  have hm := h.md
  exact ⟨h.cur.onto ho (by omega) (fun h0 x hx e => by have := hcode h0 x hx; omega), h.row.onto ho (by omega), h.res.imp fun _ r => ⟨r.1, r.2.onto ho (by omega)⟩,
    ⟨(hm.o1.store j z).1, sl_onto hm.s2 ho (fun e => hm.ap b rfl e), hm.b1, hm.b2, by simpa using hm.l0, by simpa using hm.l1, hm.l2, hm.pc, hm.ap, hm.m0⟩, below_onto h.bel ho (by omega)⟩
/-- A field of the machine is set. -/
theorem Gd.field {M' : Mc} (h : Gd w wd p a len cap g gr base x y M W) (hP : Pd w wd p a len g gr base) (hcode : 0 < len → ∀ x, a = some x → x.block < base) (hx : ∀ k, x.ownBlock = some k → k ≠ g) (hy : ∀ k, y.ownBlock = some k → k ≠ g) (ho : Onto g W W') (hr : MRow W' g x y M')
    (h1 : M'.rom = M.rom) (h2 : M'.ram = M.ram) (h3 : M'.pc = M.pc) (hg : base ≤ g) : Gd w wd p a len cap g gr base x y M' W' := by
  have := hP.n0; have := hP.n1; have := hP.n2; have := hP.n3; have := hP.n4; have := hP.n5
  have hm := h.md
  exact ⟨h.cur.onto ho (by omega) (fun h0 x hx e => by have := hcode h0 x hx; omega), hr, h.res.imp fun _ r => ⟨r.1, r.2.onto ho (by omega)⟩,
    ⟨h1 ▸ hm.o1.onto ho (fun e => hx _ e rfl), h2 ▸ sl_onto hm.s2 ho (fun e => hy _ e rfl), hm.b1, hm.b2, by rw [h1]; exact hm.l0, by rw [h1]; exact hm.l1, by rw [h2]; exact hm.l2, by rw [h3]; exact hm.pc, hm.ap, by rw [h2]; exact hm.m0⟩, below_onto h.bel ho (by omega)⟩
end
/-- What stands while the rom of a drawn machine is turned. -/
def Gxr (w wd : World) (p : Nat) (a : Option Addr) (len cap g gr base b n c : Nat) (y : Value) (q : Nat) (W : World) : Prop :=
  ∃ M : Mc, Gd w wd p a len cap g gr base (.slice (some ⟨b, 0, none⟩) n c) y M W ∧ M.pc = (q : Int) ∧ M.rom.length = n
section
variable {w wd W W' : World} {p : Nat} {a : Option Addr} {len cap g gr base b n c : Nat} {y : Value} {q : Nat}
theorem Gxr.drew (h : Gxr w wd p a len cap g gr base b n c y q W) : Gxr w wd p a len cap g gr base b n c y q W.drew := by
  obtain ⟨M, h, h1, h2⟩ := h
  exact ⟨M, h.drew, h1, h2⟩
theorem Gxr.onto (h : Gxr w wd p a len cap g gr base b n c y q W) (hP : Pd w wd p a len g gr base) (ho : Onto p W W') (hd : CurAt W' p a len cap) : Gxr w wd p a len cap g gr base b n c y q W' := by
  obtain ⟨M, h, h1, h2⟩ := h
  exact ⟨M, h.onto hP ho hd, h1, h2⟩
theorem Gxr.cell (h : Gxr w wd p a len cap g gr base b n c y q W) (hP : Pd w wd p a len g gr base) (hb : b < g) (hcode : 0 < len → ∀ x, a = some x → x.block < base) (j : Nat) (z : Int) : Gxr w wd p a len cap g gr base b n c y q (W.setCell ⟨b, j, none⟩ (.int .i64 z)) := by
  obtain ⟨M, h, h1, h2⟩ := h
  exact ⟨_, h.cellX hP hb hcode j z, h1, by simpa using h2⟩
theorem Gxr.cur (h : Gxr w wd p a len cap g gr base b n c y q W) : CurAt W p a len cap := by
  obtain ⟨M, h, h1, h2⟩ := h
  exact h.cur
end
theorem own_take {base b n c m : Nat} {W : World} {l : List Int} (h : Own base W (.slice (some ⟨b, 0, none⟩) n c) l) (hl : l.length = n) (hm : m ≤ n) : Sl W (.slice (some ⟨b, 0, none⟩) m c) (l.take m) := by
  obtain ⟨a, c', he, h1, h2, h3, h4⟩ := h.sl
  simp only [Value.slice.injEq] at he
  obtain ⟨rfl, _, rfl⟩ := he
  have ht : (l.take m).length = m := by simp; omega
  exact ⟨_, c, by rw [ht], by rw [ht]; exact h1.take m (by omega), by omega, h3, by simp⟩
theorem drawPendingIn_any (a : Option Addr) (len cap : Nat) (w : World) (hc : CodeAt w a len) (hl : len ≤ 4096) :
    Calls Tryz.prog 52 #[.slice a len cap] w fun e w' => ∃ x y M, e = .returned (Mc.val x y M) ∧ MDr w.heap.size w' x y M ∧ Below w.heap.size w w' := by
  go_enter Tryz.func52, Tryz.ntmps52
  go_wp2_with (refine al_mc rfl rfl ?_; intro w1 z1 hB1; have l1 := z1.lt)
  go_at_call 25
  refine (new_any a len cap _ (hc.below hB1) hl).mono ?_
  rintro e w2 ⟨rfl, hb2, hcur⟩
  have z2 := z1.below hb2
  have hB2 := hB1.trans (hb2.mono hB1.size)
  have hcl := hcur.lt
  have hcode := hcur.code.lt
  go_wp2_with fail
  go_at_call 26
  refine (l6DrawAny_any _ hcur.drawn).mono ?_
  rintro e w3 ⟨x, y, M, rfl, hm, ho3, hd3⟩
  have z3 := z2.onto ho3 (by omega)
  have hB3 := below_onto hB2 ho3 (by have := hB1.size; omega)
  have s2 := hb2.size
  have s3 := ho3.size
  have hxl := hm.o1.lt
  have hyl := hm.s2.lt hm.m0
  have hP : Pd w w2 w1.heap.size a len w3.heap.size w.heap.size (w2.heap.size + 1) := ⟨fun h0 x hx e => by have := hc.lt h0 x hx; omega, Nat.le_refl _, by omega, by omega, by omega, by omega, by omega⟩
  have hcd : 0 < len → ∀ x, a = some x → x.block < w2.heap.size + 1 := fun h0 x hx => by have := hc.lt h0 x hx; omega
  go_wp2_with (first
    | (refine al_mc rfl rfl ?_; intro w4 z4 hB4; have l4 := z4.lt)
    | (refine st_mc rfl rfl rfl rfl z4 (one_sl hm.s1) (one_sl hm.s2) ?_; rintro w5 z5 o5 -; have hG : Gd w w2 w1.heap.size a len cap w3.heap.size w.heap.size (w2.heap.size + 1) x y M w5 := ⟨(hd3.cur.below hB4).onto o5 (by omega) (fun h0 x hx e => by have := hcode h0 x hx; omega), z5, ⟨_, rfl, (z3.below hB4).onto o5 (by omega)⟩, mdr_new hm hB4 o5, below_onto (hB3.trans (hB4.mono hB3.size)) o5 (by have := hB3.size; omega)⟩))
  clear z1 z2 z3 z4 z5 o5
  have hg : w2.heap.size + 1 ≤ w3.heap.size := by have := (hm.o1.block (by have := hm.l0; omega)); obtain ⟨q, _, _, q1, q2, _⟩ := this; omega
  go_at_call 27
  refine (Draw.once_any _ _ hG.cur.drawn (by omega)).mono ?_
  rintro e w6 ⟨r6, rfl, ho6, hd6⟩
  replace hG := hG.onto hP ho6 hd6.cur
  clear ho6 hd6
  cases r6
  · obtain ⟨oc, hoc, hr⟩ := hG.res
    have hrow := hG.row
    go_wp2_with (first
      | (refine ld_mc rfl rfl rfl hrow ?_)
      | (refine st_row rfl _ _ _ rfl rfl rfl hr info_mc hoc (all_one (one_sl hG.md.s1) (one_sl hG.md.s2) M) ?_; rintro w7 r7 o7 -))
    refine ret_mc rfl rfl r7 rfl ?_
    have h7 := hG.md.onto o7 (by omega)
    exact ⟨_, _, M, rfl, h7.mono (by omega), below_onto hG.bel o7 (Nat.le_refl _)⟩
  · go_wp2_with fail
    go_at_call 28
    refine (Draw.below_any _ _ hG.cur.drawn (by omega)).mono ?_
    rintro e w7 ⟨r7, rfl, hr7, ho7, hd7⟩
    replace hG := hG.onto hP ho7 hd7.cur
    clear ho7 hd7
    have hrow := hG.row
    go_wp2_with (first
      | (refine st_num (m' := { M with fl := (r7 : Int) }) rfl rfl rfl rfl hrow rfl rfl ?_; intro w8 r8 o8 s8; replace hG := hG.field hP hcd (fun k hk => by have := hxl k hk; omega) (fun k hk => by have := hyl k hk; omega) o8 r8 rfl rfl rfl hg; obtain ⟨oc, hoc, hr⟩ := hG.res)
      | (refine ld_mc rfl rfl rfl r8 ?_)
      | (refine st_row rfl _ _ _ rfl rfl rfl hr info_mc hoc (all_one (one_sl hG.md.s1) (one_sl hG.md.s2) _) ?_; rintro w9 r9 o9 -))
    refine ret_mc rfl rfl r9 rfl ?_
    have h9 := hG.md.onto o9 (by omega)
    exact ⟨_, _, _, rfl, h9.mono (by omega), below_onto hG.bel o9 (Nat.le_refl _)⟩
theorem drawInterrupted_any (a : Option Addr) (len cap : Nat) (w : World) (hc : CodeAt w a len) (hl : len ≤ 4096) :
    Calls Tryz.prog 15 #[.slice a len cap] w fun e w' => ∃ x y M, e = .returned (Mc.val x y M) ∧ MDr w.heap.size w' x y M ∧ Below w.heap.size w w' := by
  go_enter Tryz.func15, Tryz.ntmps15
  go_wp2_with (refine al_mc rfl rfl ?_; intro w1 z1 hB1; have l1 := z1.lt)
  go_at_call 52
  refine (drawPendingIn_any a len cap _ (hc.below hB1) hl).mono ?_
  rintro e w2 ⟨x, y, M, rfl, hm, hb2⟩
  have z2 := z1.below hb2
  have hB2 := hB1.trans (hb2.mono hB1.size)
  go_wp2_with (refine st_mc rfl rfl rfl rfl z2 (one_sl hm.s1) (one_sl hm.s2) ?_; rintro w3 z3 o3 -)
  refine ret_mc rfl rfl z3 rfl ?_
  exact ⟨_, _, M, rfl, (hm.onto o3 (by omega)).mono (by omega), below_onto hB2 o3 (Nat.le_refl _)⟩
set_option maxRecDepth 20000 in
set_option maxHeartbeats 2000000 in
theorem drawExecuted_any (a : Option Addr) (len cap : Nat) (w : World) (hc : CodeAt w a len) (hl : len ≤ 4096) :
    Calls Tryz.prog 6 #[.slice a len cap] w fun e w' => ∃ x y M, e = .returned (Mc.val x y M) ∧ MDr w.heap.size w' x y M ∧ Below w.heap.size w w' := by
  go_enter Tryz.func6, Tryz.ntmps6
  go_wp2_with (refine al_mc rfl rfl ?_; intro w1 z1 hB1; have l1 := z1.lt)
  go_at_call 25
  refine (new_any a len cap _ (hc.below hB1) hl).mono ?_
  rintro e w2 ⟨rfl, hb2, hcur⟩
  have z2 := z1.below hb2
  have hB2 := hB1.trans (hb2.mono hB1.size)
  have hcl := hcur.lt
  have hcode := hcur.code.lt
  go_wp2_with fail
  go_at_call 26
  refine (l6DrawAny_any _ hcur.drawn).mono ?_
  rintro e w3 ⟨x, y, M0, rfl, hm, ho3, hd3⟩
  have z3 := z2.onto ho3 (by omega)
  have hB3 := below_onto hB2 ho3 (by have := hB1.size; omega)
  have s2 := hb2.size
  have s3 := ho3.size
  have hP : Pd w w2 w1.heap.size a len w3.heap.size w.heap.size (w2.heap.size + 1) := ⟨fun h0 x hx e => by have := hc.lt h0 x hx; omega, Nat.le_refl _, by omega, by omega, by omega, by omega, by omega⟩
  have hcd : 0 < len → ∀ x, a = some x → x.block < w2.heap.size + 1 := fun h0 x hx => by have := hc.lt h0 x hx; omega
  obtain ⟨gx, cx, rfl, hgx1, hgx2, hgx3, hgx4⟩ := hm.o1.block (by have := hm.l0; omega)
  go_wp2_with (first
    | (refine al_mc rfl rfl ?_; intro w4 z4 hB4; have l4 := z4.lt)
    | (refine st_mc rfl rfl rfl rfl z4 (one_sl hm.s1) (one_sl hm.s2) ?_; rintro w5 z5 o5 -; have hG0 : Gd w w2 w1.heap.size a len cap w3.heap.size w.heap.size (w2.heap.size + 1) (.slice (some ⟨gx, 0, none⟩) M0.rom.length cx) y M0 w5 := ⟨(hd3.cur.below hB4).onto o5 (by omega) (fun h0 x hx e => by have := hcode h0 x hx; omega), z5, ⟨_, rfl, (z3.below hB4).onto o5 (by omega)⟩, mdr_new hm hB4 o5, below_onto (hB3.trans (hB4.mono hB3.size)) o5 (by have := hB3.size; omega)⟩))
  clear z1 z2 z3 z4 z5 o5
  have hpc := hm.pc
  have hl0 := hm.l0
  have hl1 := hm.l1
  have HG : Hid (Gd w w2 w1.heap.size a len cap w3.heap.size w.heap.size (w2.heap.size + 1) (.slice (some ⟨gx, 0, none⟩) M0.rom.length cx) y M0 w5) := hG0
  clear hG0 hm
  obtain ⟨nx, hnx⟩ : ∃ nx, M0.rom.length = nx := ⟨_, rfl⟩
  have HN : Hid (M0.rom.length = nx) := hnx
  rw [hnx] at HG hl0 hl1 hgx3 ⊢
  clear hnx
  obtain ⟨q, HQ⟩ : ∃ q : Nat, Hid (M0.pc = (q : Int)) := ⟨M0.pc.toNat, show _ = _ by omega⟩
  rw [HQ.out] at hpc
  have hS : Gxr w w2 w1.heap.size a len cap w3.heap.size w.heap.size (w2.heap.size + 1) gx nx cx y q w5 := ⟨M0, HG.out, HQ.out, HN.out⟩
  clear HG
  go_at_call 27
  refine (Draw.once_any _ _ hS.cur.drawn (by omega)).mono ?_
  rintro e w6 ⟨r6, rfl, ho6, hd6⟩
  replace hS := hS.onto hP ho6 hd6.cur
  clear ho6 hd6
  cases r6
  · skip
    obtain ⟨M, hG, hM1, hM2⟩ := hS
    obtain ⟨oc, hoc, hr⟩ := hG.res
    have hrow := hG.row
    go_wp2_with (first
      | (refine ld_mc rfl rfl rfl hrow ?_)
      | (refine st_row rfl _ _ _ rfl rfl rfl hr info_mc hoc (all_one (one_sl hG.md.s1) (one_sl hG.md.s2) M) ?_; rintro w20 r20 o20 -))
    refine ret_mc rfl rfl r20 rfl ?_
    have h20 := hG.md.onto o20 (by omega)
    exact ⟨_, _, M, rfl, h20.mono (by omega), below_onto hG.bel o20 (Nat.le_refl _)⟩
  · have hk : w6.cell? ⟨w3.heap.size, 4, none⟩ = some (.int .i64 (q : Int)) ∧ w6.cell? ⟨w3.heap.size, 0, none⟩ = some (.slice (some ⟨gx, 0, none⟩) nx cx) := by
      obtain ⟨M, hG, hM1, hM2⟩ := hS
      have kp := (cw hG.row).pc
      rw [hM1] at kp
      exact ⟨kp, (cw hG.row).vr⟩
    obtain ⟨k1, k2⟩ := hk
    by_cases hlt : (q : Int) + 1 < (nx : Int) - 1
    · go_wp2_with fail
      refine region_by (by kernel_rfl) (by kernel_rfl) (fun W => Gxr w w2 w1.heap.size a len cap w3.heap.size w.heap.size (w2.heap.size + 1) gx nx cx y q W)
        (kinds [KIs (.pointer (some ⟨w3.heap.size, 0, none⟩)), KIs (.slice (some ⟨gx, 0, none⟩) nx cx), KIs (.pointer (some ⟨w3.heap.size, 4, none⟩)), KIs (.int .i64 (q : Int)), KIs (.pointer (some ⟨w1.heap.size, 0, none⟩)), KInt, KIs (.pointer (some ⟨gx, q, none⟩)), KAny])
        (Rel fun _ => True) (by kernel_rfl) (kinds_mono ?mono) hS.drew ?step ?done
      case mono =>
        intro K hK
        simp only [List.mem_cons, List.not_mem_nil, or_false] at hK
        rcases hK with rfl | rfl | rfl | rfl | rfl | rfl | rfl | rfl
        all_goals first | exact bears_is _ _ | exact bears_any _ | exact bears_int _
      case step =>
        intro L ix o A W hi hI hL hd
        have hin : ix < 8 := by
          by_cases hl : ix < 8
          · exact hl
          · simp [hl] at hi
        have hsz : A.tmps.size = 44 := hI.size
        have hS := hI.g
        rcases ix with _ | ix
        · obtain rfl := (Option.some.inj hi).symm
          have e0 : A.eval (.tmp 4) = .pointer (some ⟨w3.heap.size, 0, none⟩) := hI.old 4 (by kernel_rfl)
          refine at_op rfl rfl (val_op (v := .pointer (some ⟨w3.heap.size, 0, none⟩)) ?_ ⟨_, rfl, rfl, hS, Rel.refl _ _⟩)
          unfold execOp
          simp only [List.getElem_toArray, List.getElem_cons_zero, List.getElem_cons_succ, e0]
          simp [go_sem]
        rcases ix with _ | ix
        · obtain rfl := (Option.some.inj hi).symm
          have e0 : A.eval (.tmp 21) = .pointer (some ⟨w3.heap.size, 0, none⟩) := hI.get hd 0 21 rfl (by kernel_rfl)
          obtain ⟨M, hG, hM1, hM2⟩ := id hS
          exact at_op rfl rfl (loads_op rfl e0 (cw hG.row).vr ⟨_, rfl, rfl, hS, Rel.refl _ _⟩)
        rcases ix with _ | ix
        · obtain rfl := (Option.some.inj hi).symm
          have e0 : A.eval (.tmp 4) = .pointer (some ⟨w3.heap.size, 0, none⟩) := hI.old 4 (by kernel_rfl)
          refine at_op rfl rfl (val_op (v := .pointer (some ⟨w3.heap.size, 4, none⟩)) ?_ ⟨_, rfl, rfl, hS, Rel.refl _ _⟩)
          unfold execOp
          simp only [List.getElem_toArray, List.getElem_cons_zero, List.getElem_cons_succ, e0]
          simp [go_sem]
        rcases ix with _ | ix
        · obtain rfl := (Option.some.inj hi).symm
          have e0 : A.eval (.tmp 23) = .pointer (some ⟨w3.heap.size, 4, none⟩) := hI.get hd 2 23 rfl (by kernel_rfl)
          obtain ⟨M, hG, hM1, hM2⟩ := id hS
          have kp := (cw hG.row).pc
          rw [hM1] at kp
          exact at_op rfl rfl (load_op rfl Tryz.underlying2 e0 kp ⟨_, rfl, rfl, hS, Rel.refl _ _⟩)
        rcases ix with _ | ix
        · obtain rfl := (Option.some.inj hi).symm
          have e0 : A.eval (.tmp 3) = .pointer (some ⟨w1.heap.size, 0, none⟩) := hI.old 3 (by kernel_rfl)
          exact at_op rfl rfl (move_op rfl ⟨_, rfl, e0, hS, Rel.refl _ _⟩)
        rcases ix with _ | ix
        · obtain rfl := (Option.some.inj hi).symm
          have e0 : A.eval (.tmp 25) = .pointer (some ⟨w1.heap.size, 0, none⟩) := hI.get hd 4 25 rfl (by kernel_rfl)
          refine at_op rfl rfl (call_op rfl Tryz.func28 (by kernel_rfl) (by kernel_rfl) ?_)
          simp only [List.map_cons, List.map_nil, e0]
          refine (Draw.below_any 31 W hS.cur.drawn (by omega)).mono ?_
          rintro e w8 ⟨r, rfl, hr8, ho8, hd8⟩
          exact ⟨_, rfl, _, rfl, ⟨r, rfl⟩, hS.onto hP ho8 hd8.cur, Rel.onto ho8 trivial⟩
        rcases ix with _ | ix
        · obtain rfl := (Option.some.inj hi).symm
          have e0 : A.eval (.tmp 22) = .slice (some ⟨gx, 0, none⟩) nx cx := hI.get hd 1 22 rfl (by kernel_rfl)
          have e1 : A.eval (.tmp 24) = .int .i64 (q : Int) := hI.get hd 3 24 rfl (by kernel_rfl)
          exact at_op rfl rfl (index_op (r := q) rfl und64 info_i e0 e1 (by omega) ⟨_, rfl, rfl, hS, Rel.refl _ _⟩)
        rcases ix with _ | ix
        · obtain rfl := (Option.some.inj hi).symm
          have e0 : A.eval (.tmp 27) = .pointer (some ⟨gx, q, none⟩) := hI.get hd 6 27 rfl (by kernel_rfl)
          obtain ⟨z, e1⟩ : KInt (A.eval (.tmp 26)) W := hI.get hd 5 26 rfl (by kernel_rfl)
          obtain ⟨M, hG, hM1, hM2⟩ := id hS
          exact at_op rfl rfl (sto_op rfl e0 e1 (hG.md.o1.cellAt (by omega)) (hG.md.o1.free _) ⟨_, rfl, trivial, hS.cell hP (by omega) hcd _ _, Rel.onto ((Onto.refl gx W).setCell rfl _) trivial⟩)
        omega
      case done =>
        intro A W hI
        have hS := hI.g
        have hA := hI.frame [21, 22, 23, 24, 25, 26, 27] (by kernel_rfl)
        rw [hA]
        clear hA hI
        simp only [putAll, List.foldl_cons, List.foldl_nil, Act.put, List.setIfInBounds_toArray, List.set_cons_zero, List.set_cons_succ]
        go_wp2_with fail
        refine region_by (by kernel_rfl) (by kernel_rfl) (fun W => Gxr w w2 w1.heap.size a len cap w3.heap.size w.heap.size (w2.heap.size + 1) gx nx cx y q W)
          (kinds [KIs (.pointer (some ⟨w3.heap.size, 0, none⟩)), KIs (.slice (some ⟨gx, 0, none⟩) nx cx), KIs (.pointer (some ⟨w3.heap.size, 0, none⟩)), KIs (.slice (some ⟨gx, 0, none⟩) nx cx), KIs (.int .i64 (nx : Int)), KIs (.int .i64 ((nx - 1 : Nat) : Int)), KIs (.pointer (some ⟨w3.heap.size, 0, none⟩)), KIs (.slice (some ⟨gx, 0, none⟩) nx cx), KIs (.pointer (some ⟨w3.heap.size, 0, none⟩)), KIs (.slice (some ⟨gx, 0, none⟩) nx cx), KIs (.int .i64 (nx : Int)), KIs (.int .i64 ((nx - 1 : Nat) : Int)), KIs (.slice (some ⟨gx, 0, none⟩) (nx - 1) cx), KInt, KIs (.pointer (some ⟨gx, nx - 1, none⟩)), KAny])
          (Rel fun _ => True) (by kernel_rfl) (kinds_mono ?mono) hS.drew ?step ?done
        case mono =>
          intro K hK
          simp only [List.mem_cons, List.not_mem_nil, or_false] at hK
          rcases hK with rfl | rfl | rfl | rfl | rfl | rfl | rfl | rfl | rfl | rfl | rfl | rfl | rfl | rfl | rfl | rfl
          all_goals first | exact bears_is _ _ | exact bears_any _ | exact bears_int _
        case step =>
          intro L ix o A W hi hI hL hd
          have hin : ix < 16 := by
            by_cases hl : ix < 16
            · exact hl
            · simp [hl] at hi
          have hsz : A.tmps.size = 44 := hI.size
          have hS := hI.g
          rcases ix with _ | ix
          · obtain rfl := (Option.some.inj hi).symm
            have e0 : A.eval (.tmp 4) = .pointer (some ⟨w3.heap.size, 0, none⟩) := hI.old 4 (by kernel_rfl)
            refine at_op rfl rfl (val_op (v := .pointer (some ⟨w3.heap.size, 0, none⟩)) ?_ ⟨_, rfl, rfl, hS, Rel.refl _ _⟩)
            unfold execOp
            simp only [List.getElem_toArray, List.getElem_cons_zero, List.getElem_cons_succ, e0]
            simp [go_sem]
          rcases ix with _ | ix
          · obtain rfl := (Option.some.inj hi).symm
            have e0 : A.eval (.tmp 28) = .pointer (some ⟨w3.heap.size, 0, none⟩) := hI.get hd 0 28 rfl (by kernel_rfl)
            obtain ⟨M, hG, hM1, hM2⟩ := id hS
            exact at_op rfl rfl (loads_op rfl e0 (cw hG.row).vr ⟨_, rfl, rfl, hS, Rel.refl _ _⟩)
          rcases ix with _ | ix
          · obtain rfl := (Option.some.inj hi).symm
            have e0 : A.eval (.tmp 4) = .pointer (some ⟨w3.heap.size, 0, none⟩) := hI.old 4 (by kernel_rfl)
            refine at_op rfl rfl (val_op (v := .pointer (some ⟨w3.heap.size, 0, none⟩)) ?_ ⟨_, rfl, rfl, hS, Rel.refl _ _⟩)
            unfold execOp
            simp only [List.getElem_toArray, List.getElem_cons_zero, List.getElem_cons_succ, e0]
            simp [go_sem]
          rcases ix with _ | ix
          · obtain rfl := (Option.some.inj hi).symm
            have e0 : A.eval (.tmp 30) = .pointer (some ⟨w3.heap.size, 0, none⟩) := hI.get hd 2 30 rfl (by kernel_rfl)
            obtain ⟨M, hG, hM1, hM2⟩ := id hS
            exact at_op rfl rfl (loads_op rfl e0 (cw hG.row).vr ⟨_, rfl, rfl, hS, Rel.refl _ _⟩)
          rcases ix with _ | ix
          · obtain rfl := (Option.some.inj hi).symm
            have e0 : A.eval (.tmp 31) = .slice (some ⟨gx, 0, none⟩) nx cx := hI.get hd 3 31 rfl (by kernel_rfl)
            exact at_op rfl rfl (len_op rfl e0 ⟨_, rfl, rfl, hS, Rel.refl _ _⟩)
          rcases ix with _ | ix
          · obtain rfl := (Option.some.inj hi).symm
            have e0 : A.eval (.tmp 32) = .int .i64 (nx : Int) := hI.get hd 4 32 rfl (by kernel_rfl)
            exact at_op rfl rfl (bin_op (vy := .int .i64 1) rfl e0 rfl (fun w => by rw [show ((nx - 1 : Nat) : Int) = (nx : Int) - 1 from by omega]; exact subI _ _ _ _ w (by omega) (by omega)) ⟨_, rfl, rfl, hS, Rel.refl _ _⟩)
          rcases ix with _ | ix
          · obtain rfl := (Option.some.inj hi).symm
            have e0 : A.eval (.tmp 4) = .pointer (some ⟨w3.heap.size, 0, none⟩) := hI.old 4 (by kernel_rfl)
            refine at_op rfl rfl (val_op (v := .pointer (some ⟨w3.heap.size, 0, none⟩)) ?_ ⟨_, rfl, rfl, hS, Rel.refl _ _⟩)
            unfold execOp
            simp only [List.getElem_toArray, List.getElem_cons_zero, List.getElem_cons_succ, e0]
            simp [go_sem]
          rcases ix with _ | ix
          · obtain rfl := (Option.some.inj hi).symm
            have e0 : A.eval (.tmp 34) = .pointer (some ⟨w3.heap.size, 0, none⟩) := hI.get hd 6 34 rfl (by kernel_rfl)
            obtain ⟨M, hG, hM1, hM2⟩ := id hS
            exact at_op rfl rfl (loads_op rfl e0 (cw hG.row).vr ⟨_, rfl, rfl, hS, Rel.refl _ _⟩)
          rcases ix with _ | ix
          · obtain rfl := (Option.some.inj hi).symm
            have e0 : A.eval (.tmp 4) = .pointer (some ⟨w3.heap.size, 0, none⟩) := hI.old 4 (by kernel_rfl)
            refine at_op rfl rfl (val_op (v := .pointer (some ⟨w3.heap.size, 0, none⟩)) ?_ ⟨_, rfl, rfl, hS, Rel.refl _ _⟩)
            unfold execOp
            simp only [List.getElem_toArray, List.getElem_cons_zero, List.getElem_cons_succ, e0]
            simp [go_sem]
          rcases ix with _ | ix
          · obtain rfl := (Option.some.inj hi).symm
            have e0 : A.eval (.tmp 36) = .pointer (some ⟨w3.heap.size, 0, none⟩) := hI.get hd 8 36 rfl (by kernel_rfl)
            obtain ⟨M, hG, hM1, hM2⟩ := id hS
            exact at_op rfl rfl (loads_op rfl e0 (cw hG.row).vr ⟨_, rfl, rfl, hS, Rel.refl _ _⟩)
          rcases ix with _ | ix
          · obtain rfl := (Option.some.inj hi).symm
            have e0 : A.eval (.tmp 37) = .slice (some ⟨gx, 0, none⟩) nx cx := hI.get hd 9 37 rfl (by kernel_rfl)
            exact at_op rfl rfl (len_op rfl e0 ⟨_, rfl, rfl, hS, Rel.refl _ _⟩)
          rcases ix with _ | ix
          · obtain rfl := (Option.some.inj hi).symm
            have e0 : A.eval (.tmp 38) = .int .i64 (nx : Int) := hI.get hd 10 38 rfl (by kernel_rfl)
            exact at_op rfl rfl (bin_op (vy := .int .i64 1) rfl e0 rfl (fun w => by rw [show ((nx - 1 : Nat) : Int) = (nx : Int) - 1 from by omega]; exact subI _ _ _ _ w (by omega) (by omega)) ⟨_, rfl, rfl, hS, Rel.refl _ _⟩)
          rcases ix with _ | ix
          · obtain rfl := (Option.some.inj hi).symm
            have e0 : A.eval (.tmp 35) = .slice (some ⟨gx, 0, none⟩) nx cx := hI.get hd 7 35 rfl (by kernel_rfl)
            have e1 : A.eval (.tmp 39) = .int .i64 ((nx - 1 : Nat) : Int) := hI.get hd 11 39 rfl (by kernel_rfl)
            exact at_op rfl rfl (cut_op rfl e0 e1 (by omega) (by omega) ⟨_, rfl, rfl, hS, Rel.refl _ _⟩)
          rcases ix with _ | ix
          · obtain rfl := (Option.some.inj hi).symm
            have e0 : A.eval (.tmp 40) = .slice (some ⟨gx, 0, none⟩) (nx - 1) cx := hI.get hd 12 40 rfl (by kernel_rfl)
            refine at_op rfl rfl (call_op rfl Tryz.func29 (by kernel_rfl) (by kernel_rfl) ?_)
            simp only [List.map_cons, List.map_nil, e0]
            obtain ⟨M, hG, hM1, hM2⟩ := id hS
            refine (checkOf_specS _ (M.rom.take (nx - 1)) W (own_take hG.md.o1 hM2 (by omega))).mono ?_
            rintro e w8 ⟨rfl, rfl⟩
            exact ⟨_, rfl, _, rfl, ⟨_, rfl⟩, hS, Rel.refl _ _⟩
          rcases ix with _ | ix
          · obtain rfl := (Option.some.inj hi).symm
            have e0 : A.eval (.tmp 29) = .slice (some ⟨gx, 0, none⟩) nx cx := hI.get hd 1 29 rfl (by kernel_rfl)
            have e1 : A.eval (.tmp 33) = .int .i64 ((nx - 1 : Nat) : Int) := hI.get hd 5 33 rfl (by kernel_rfl)
            exact at_op rfl rfl (index_op (r := nx - 1) rfl und64 info_i e0 e1 (by omega) ⟨_, rfl, rfl, hS, Rel.refl _ _⟩)
          rcases ix with _ | ix
          · obtain rfl := (Option.some.inj hi).symm
            have e0 : A.eval (.tmp 42) = .pointer (some ⟨gx, nx - 1, none⟩) := hI.get hd 14 42 rfl (by kernel_rfl)
            obtain ⟨z, e1⟩ : KInt (A.eval (.tmp 41)) W := hI.get hd 13 41 rfl (by kernel_rfl)
            obtain ⟨M, hG, hM1, hM2⟩ := id hS
            exact at_op rfl rfl (sto_op rfl e0 e1 (hG.md.o1.cellAt (by omega)) (hG.md.o1.free _) ⟨_, rfl, trivial, hS.cell hP (by omega) hcd _ _, Rel.onto ((Onto.refl gx W).setCell rfl _) trivial⟩)
          omega
        case done =>
          intro A W hI
          have hS := hI.g
          have hA := hI.frame [28, 29, 30, 31, 32, 33, 34, 35, 36, 37, 38, 39, 40, 41, 42] (by kernel_rfl)
          rw [hA]
          clear hA hI
          simp only [putAll, List.foldl_cons, List.foldl_nil, Act.put, List.setIfInBounds_toArray, List.set_cons_zero, List.set_cons_succ]
          obtain ⟨M, hG, hM1, hM2⟩ := hS
          obtain ⟨oc, hoc, hr⟩ := hG.res
          have hrow := hG.row
          go_wp2_with (first
            | (refine ld_mc rfl rfl rfl hrow ?_)
            | (refine st_row rfl _ _ _ rfl rfl rfl hr info_mc hoc (all_one (one_sl hG.md.s1) (one_sl hG.md.s2) M) ?_; rintro w20 r20 o20 -))
          refine ret_mc rfl rfl r20 rfl ?_
          have h20 := hG.md.onto o20 (by omega)
          exact ⟨_, _, M, rfl, h20.mono (by omega), below_onto hG.bel o20 (Nat.le_refl _)⟩
    · clear k1 k2
      obtain ⟨M, hG, hM1, hM2⟩ := hS
      have k1 : w6.cell? ⟨w3.heap.size, 4, none⟩ = some (.int .i64 (q : Int)) := by rw [← hM1]; exact (cw hG.row).pc
      have k2 : w6.cell? ⟨w3.heap.size, 0, none⟩ = some (.slice (some ⟨gx, 0, none⟩) nx cx) := (cw hG.row).vr
      obtain ⟨oc, hoc, hr⟩ := hG.res
      have hrow := hG.row
      go_wp2_with (first
        | (refine ld_mc rfl rfl rfl hrow ?_)
        | (refine st_row rfl _ _ _ rfl rfl rfl hr info_mc hoc (all_one (one_sl hG.md.s1) (one_sl hG.md.s2) M) ?_; rintro w20 r20 o20 -))
      refine ret_mc rfl rfl r20 rfl ?_
      have h20 := hG.md.onto o20 (by omega)
      exact ⟨_, _, M, rfl, h20.mono (by omega), below_onto hG.bel o20 (Nat.le_refl _)⟩
end Go.Proofs.YtocofjimkfffeaaGreatDoor.Mem
