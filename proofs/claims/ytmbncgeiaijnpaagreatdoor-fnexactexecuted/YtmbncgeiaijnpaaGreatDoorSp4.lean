/-
  The model's Executed.
-/
import Derived.Test.YtmbncgeiaijnpaaGreatDoorSp3
namespace Go.Proofs.YtmbncgeiaijnpaaGreatDoor.Mem
open Go.ChangeShapes Go.WideShapes Go.RowKit Base Num Slc Rw Tmr Srl Rom RomOf Opl Reg
set_option linter.unusedVariables false
set_option linter.unusedSimpArgs false
section
variable {ops : Array Oper} {rest : List Oper} {o : Oper} {a : Act} {w : World} {Q : Exit → Act → World → Prop} {g : Nat} {x y : Value} {m : Mc}
theorem ret_mc3' {fn : Func} {R : Ending → World → Prop} {q u u2 : Tmp} {v v2 : Value} (h : fn.results = #[.cell q 30, .tmp u, .tmp u2]) (hp : a.tmps.getD q undef = .pointer (some ⟨g, 0, none⟩)) (hr : MRow w g x y m) (hde : a.defers = []) (hv : a.tmps.getD u undef = v) (hv2 : a.tmps.getD u2 undef = v2)
    (hR : R (.returned (.tuple #[m.val x y, v, v2])) w) : bodyPost Tryz.prog fn R .ret a w := ret_row_tmp2 h hp hr Tryz.underlying30 rfl info_mc hde hv hv2 hR
variable {op : Oper} {K : Act → World → Prop} {p q : Operand} {x0 y0 : Value} {m0 : Mc}
theorem sm_op' (ho : op.op = .store 30 p q) (hx : a.eval p = .pointer (some ⟨g, 0, none⟩)) (hy : a.eval q = m.val x y) (hr : MRow w g x0 y0 m0) (h1 : x.oneCell' = true) (h2 : y.oneCell' = true)
    (h : ∀ w', MRow w' g x y m → Onto g w w' → K (a.put op.dst undef) w') : op.wp Tryz.prog a w K Q :=
  wp_store_row _ p q ho g _ hx hy _ _ hr.row info_mc rfl (all_one h1 h2 m)
    (h _ (Row.of (setRow_heap w g _ _ _ _ hr.row)) ⟨rfl, rfl, rfl, by simp, fun k hk _ => setRow_other w g k _ hk⟩)
end
section
variable {base : Nat} {w : World} {x y v : Value} {m : Mc}
/-- What l7Run answers. -/
def Ran (base : Nat) (w w' : World) (e : Ending) (x y : Value) (r : Mc × Int × Int) : Prop := e = .returned (.tuple #[r.1.val x y, .int .i64 r.2.1, .int .i64 r.2.2]) ∧ Ow base w' x y r.1 ∧ But y w w'
theorem l7Run_idle (hv : v = m.val x y) (h : Ow base w x y m) (hi : (m.h || m.s) = true) : Calls Tryz.prog 30 #[v] w fun e w' => Ran base w w' e x y (m, 1, -1) := by
  cases hh : m.h
  · have hs : m.s = true := by simpa [hh] using hi
    go_enter Tryz.func30, Tryz.ntmps30
    go_wp2_with (first
      | (refine box_m rfl rfl hv ?_; intro w0 r0 hB0)
      | (refine al_mc rfl rfl ?_; intro w1 z1 hB1; have r1 := r0.below hB1; have hB2 := hB0.trans (hB1.mono hB0.size); have l0 := r0.lt; have lz := z1.lt; have kh := (cw r1).h; have ks := (cw r1).s; rw [hh] at kh; rw [hs] at ks)
      | (refine ld_mc rfl rfl rfl r1 ?_)
      | (refine st_mc rfl rfl rfl rfl z1 (one_own h.hx) (one_own h.hy) ?_; intro w6 r6 o6 s6))
    refine ret_mc3' rfl rfl r6 rfl rfl rfl ?_
    have hB6 := below_onto hB2 o6 (by omega)
    exact ⟨rfl, h.below hB6, .of hB6⟩
  · go_enter Tryz.func30, Tryz.ntmps30
    go_wp2_with (first
      | (refine box_m rfl rfl hv ?_; intro w0 r0 hB0)
      | (refine al_mc rfl rfl ?_; intro w1 z1 hB1; have r1 := r0.below hB1; have hB2 := hB0.trans (hB1.mono hB0.size); have l0 := r0.lt; have lz := z1.lt; have kh := (cw r1).h; rw [hh] at kh)
      | (refine ld_mc rfl rfl rfl r1 ?_)
      | (refine st_mc rfl rfl rfl rfl z1 (one_own h.hx) (one_own h.hy) ?_; intro w6 r6 o6 s6))
    refine ret_mc3' rfl rfl r6 rfl rfl rfl ?_
    have hB6 := below_onto hB2 o6 (by omega)
    exact ⟨rfl, h.below hB6, .of hB6⟩
theorem l7Run_stuck (hv : v = m.val x y) (h : Ow base w x y m) (hok : m.ok = true) (hi : (m.h || m.s) = false) (hz : m.size' = 0) : Calls Tryz.prog 30 #[v] w fun e w' => Ran base w w' e x y ({ m with s := true }, 1, -1) := by
  have hh : m.h = false := by simp at hi; exact hi.1
  have hs : m.s = false := by simp at hi; exact hi.2
  have hpc := bok_iff.1 (okm.1 hok).pc
  have HC : Hid ((line (m.read m.pc)).2.1 = 0) := hz
  clear hz
  go_enter Tryz.func30, Tryz.ntmps30
  go_wp2_with (first
    | (refine box_m rfl rfl hv ?_; intro w0 r0 hB0)
    | (refine al_mc rfl rfl ?_; intro w1 z1 hB1; have r1 := r0.below hB1; have hB2 := hB0.trans (hB1.mono hB0.size); have l0 := r0.lt; have lz := z1.lt; have h1 := h.below hB2; have kh := (cw r1).h; have ks := (cw r1).s; have kp := (cw r1).pc; rw [hh] at kh; rw [hs] at ks)
    | (refine ld_mc rfl rfl rfl r1 ?_)
    | (go_at_call 39; refine (l6Read_spec _ m _ _ h1.sl (Mc.right hok) hpc).mono ?_; rintro e w2 ⟨rfl, hb2⟩; have hB3 := hB2.trans (hb2.mono hB2.size); have z2 := z1.below hb2; have r2 := r1.below hb2; clear kh ks kp)
    | (go_at_call 107; refine (sizeOf_spec _ _).mono ?_; rintro e w3 ⟨rfl, hb3⟩; rw [HC.out]; have hB4 := hB3.trans (hb3.mono hB3.size); have z3 := z2.below hb3; have r3 := r2.below hb3)
    | (refine st_yes (m' := { m with s := true }) rfl rfl rfl rfl r3 rfl rfl ?_; intro w4 r4 o4 s4; have z4 := z3.onto o4 (by omega); have hB5 := below_onto hB4 o4 (by omega))
    | (refine ld_mc rfl rfl rfl r4 ?_)
    | (refine st_mc rfl rfl rfl rfl z4 (one_own h.hx) (one_own h.hy) ?_; intro w6 r6 o6 s6))
  refine ret_mc3' rfl rfl r6 rfl rfl rfl ?_
  have hB6 := below_onto hB5 o6 (by omega)
  exact ⟨rfl, (h.below hB6).as rfl rfl, .of hB6⟩
/-- While the answer is laid. -/
structure Gy (w : World) (base g g2 : Nat) (x y : Value) (m : Mc) (b : Bool) (W : World) : Prop where
  row : MRow W g x y m
  ow : Ow base W x y m
  but : But y w W
  res : if b = true then MRow W g2 x y m else MRow W g2 nil64 nil64 Mc.nul
theorem Gy.below {w W W' : World} {base g g2 : Nat} {x y : Value} {m : Mc} {b : Bool} (h : Gy w base g g2 x y m b W) (hb : Below W.heap.size W W') : Gy w base g g2 x y m b W' :=
  ⟨h.row.below hb, h.ow.below hb, h.but.trans (.of hb), by have := h.res; cases b <;> exact Row.below this hb⟩
theorem Gy.lay {w W W' : World} {base g g2 : Nat} {x y : Value} {m : Mc} {b : Bool} (h : Gy w base g g2 x y m b W) (hr : MRow W' g2 x y m) (ho : Onto g2 W W') (h1 : g ≠ g2) (h2 : w.heap.size ≤ g2) (n1 : x.ownBlock ≠ some g2) (n2 : y.ownBlock ≠ some g2) : Gy w base g g2 x y m true W' :=
  ⟨h.row.onto ho h1, h.ow.at ho n1 n2, h.but.new ho h2, by simpa using hr⟩
set_option maxRecDepth 100000 in
set_option maxHeartbeats 2000000 in
theorem l7Run_does (hv : v = m.val x y) (h : Ow base w x y m) (hok : m.ok = true) (hi : (m.h || m.s) = false) (k : Nat) (hk : k < 31) (hcode : m.code = (k : Int)) :
    Calls Tryz.prog 30 #[v] w fun e w' => Ran base w w' e x y ((m.onw.does m.opnd k).1, (line (k : Int)).2.2, (m.onw.does m.opnd k).2) := by
  have hh : m.h = false := by simp at hi; exact hi.1
  have hs : m.s = false := by simp at hi; exact hi.2
  have hpc := bok_iff.1 (okm.1 hok).pc
  obtain ⟨g, hg, hgl⟩ := ram_block h.hy hok
  have HC : Hid (m.read m.pc = (k : Int)) := hcode
  obtain ⟨sz, HS⟩ : ∃ sz, Hid (sz = (line (k : Int)).2.1) := ⟨_, show _ = _ from rfl⟩
  have hsz : 1 ≤ sz ∧ sz ≤ 2 := by have := size_in k hk; have := HS.out; omega
  have hz0 : (sz == 0) = false := by simp; omega
  have HO : Hid (m.onw = { m with pc := (m.pc + sz) % 256 }) := show _ = _ by unfold Mc.onw Mc.size'; rw [hcode, ← HS.out]
  have hrem1 := rem_pos' (a := m.pc + 1) (r := 256) (by omega)
  have hrem2 := rem_pos' (a := m.pc + sz) (r := 256) (by omega)
  have hq : 0 ≤ (m.pc + 1) % 256 ∧ (m.pc + 1) % 256 ≤ 255 := by omega
  have HP : Hid (m.read ((m.pc + 1) % 256) = m.opnd) := show _ = _ from rfl
  clear hcode
  go_enter Tryz.func30, Tryz.ntmps30
  go_wp2_with (first
    | (refine box_m rfl rfl hv ?_; intro w0 r0 hB0)
    | (refine al_mc rfl rfl ?_; intro w1 z1 hB1; have r1 := r0.below hB1; have hB2 := hB0.trans (hB1.mono hB0.size); have l0 := r0.lt; have lz := z1.lt; have h1 := h.below hB2; have kh := (cw r1).h; have ks := (cw r1).s; have kp := (cw r1).pc; rw [hh] at kh; rw [hs] at ks)
    | (refine ld_mc rfl rfl rfl r1 ?_))
  go_at_call 39
  refine (l6Read_spec _ m _ _ h1.sl (Mc.right hok) hpc).mono ?_
  rintro e w2 ⟨rfl, hb2⟩
  rw [HC.out]
  have hB3 := hB2.trans (hb2.mono hB2.size)
  have z2 := z1.below hb2
  have r2 := r1.below hb2
  clear kh ks kp
  go_wp2_with (first
    | (go_at_call 107; refine (sizeOf_spec _ _).mono ?_; rintro e w3 ⟨rfl, hb3⟩; rw [← HS.out]; have hB4 := hB3.trans (hb3.mono hB3.size); have z3 := z2.below hb3; have r3 := r2.below hb3; have kp := (cw r3).pc; have h3 := h.below hB4)
    | (refine ld_mc rfl rfl rfl r3 ?_))
  go_at_call 39
  refine (l6Read_spec _ m _ _ h3.sl (Mc.right hok) hq).mono ?_
  rintro e w4 ⟨rfl, hb4⟩
  rw [HP.out]
  have hB5 := hB4.trans (hb4.mono hB4.size)
  have z4 := z3.below hb4
  have r4 := r3.below hb4
  have kp4 := (cw r4).pc
  have lz4 := z4.lt
  have lr4 := r4.lt
  clear kp
  obtain ⟨N, HN⟩ : ∃ N, Hid (N = m.opnd) := ⟨_, show _ = _ from rfl⟩
  rw [← HN.out]
  have hnb : bok N = true := by rw [HN.out]; exact opnd_ok hok
  obtain ⟨M, HM⟩ : ∃ M, Hid (M = (m.onw.does m.opnd k).1) := ⟨_, show _ = _ from rfl⟩
  obtain ⟨O, HQ⟩ : ∃ O, Hid (O = (m.onw.does m.opnd k).2) := ⟨_, show _ = _ from rfl⟩
  obtain ⟨m5, H5⟩ : ∃ m5 : Mc, Hid (m5 = { m with pc := (m.pc + sz) % 256 }) := ⟨_, show _ = _ from rfl⟩
  have hDo : ∀ (W : World), Ow base W x y m5 → Calls Tryz.prog 108 #[m5.val x y, .int .i64 (k : Int), .int .i64 N] W fun e w' => e = .returned (.tuple #[M.val x y, .int .i64 O]) ∧ Ow base w' x y M ∧ But y W w' := fun W hW => by
    rw [HM.out, HQ.out, HO.out, ← HN.out, ← H5.out]
    exact l7Do_spec rfl hW (by rw [H5.out]; exact ok_pc hok (bok_mod _)) _ hnb k hk
  clear hnb
  have hc5 : (m.cells x y).setIfInBounds 4 (.int .i64 ((m.pc + sz) % 256)) = m5.cells x y := by rw [H5.out]; rfl
  have hr5 : m5.rom = m.rom ∧ m5.ram = m.ram := by rw [H5.out]; exact ⟨rfl, rfl⟩
  go_wp2_with (first
    | (refine st_num (m' := m5) rfl rfl rfl rfl r4 rfl hc5 ?_; intro w5 r5 o5 s5; have z5 := z4.onto o5 (by omega); have hB6 := below_onto hB5 o5 (by omega); have h5 := (h.below hB6).as (m' := m5) hr5.1 hr5.2; clear hc5 hr5 kp4 hrem1 hrem2 hz0)
    | (refine ld_mc rfl rfl rfl r5 ?_)
    | (go_at_call 108; refine (hDo _ h5).mono ?_; rintro e w6 ⟨rfl, h6, hb6⟩; have z6 := hb6.row hg z5 (by omega); have hsz6 := (hb6 g hg).size; have hsB6 := hB6.size)
    | (refine al_mc rfl rfl ?_; intro w7 z7 hb7; have z7' := z6.below hb7; have h7 := h6.below hb7; have l7 := z7.lt; have l6 := z6.lt; have hsz7 := hb7.size)
    | (refine st_mc rfl rfl rfl rfl z7 (one_own h.hx) (one_own h.hy) ?_; intro w8 r8 o8 s8))
  have hGy : Gy w base w6.heap.size w0.heap.size x y M false w8 :=
    ⟨r8, h7.at o8 (fun e => by have := (h.hx.lt _ e).2; omega) (fun e => by have := (h.hy.lt _ e).2; omega), (((But.of hB6).trans hb6).trans (.of hb7)).new o8 (by omega), z7'.onto o8 (by omega)⟩
  have hs0 := hB0.size
  refine region_known (by kernel_rfl) (by kernel_rfl) 4 (by decide) (by kernel_rfl) (Gy w base w6.heap.size w0.heap.size x y M)
    [M.val x y, .int .i64 (k : Int), .int .i64 (line (k : Int)).2.2, .int .i64 O, undef, .int .i64 (line (k : Int)).2.2, .int .i64 O] (hGy.below (below_drewN (Below.refl _ _) 1)) ?step ?done
  case step =>
    intro L ix o' A W hi hI hL hd
    have hin : ix < 7 := by
      by_cases hl : ix < 7
      · exact hl
      · simp [hl] at hi
    have hg' := hI.g
    rcases ix with _ | ix
    · obtain rfl := (Option.some.inj hi).symm
      have e0 : A.eval (.tmp 8) = .pointer (some ⟨w6.heap.size, 0, none⟩) := hI.old 8 (by kernel_rfl)
      exact at_op rfl rfl (wp_load_row _ _ rfl _ e0 _ _ _ _ hg'.row.row Tryz.underlying30 rfl info_mc ⟨_, rfl, rfl, by simpa using hg'⟩)
    rcases ix with _ | ix
    · obtain rfl := (Option.some.inj hi).symm
      have e0 : A.eval (.tmp 5) = .int .i64 (k : Int) := hI.old 5 (by kernel_rfl)
      exact at_op rfl rfl (move_op rfl ⟨_, rfl, e0, by simpa using hg'⟩)
    rcases ix with _ | ix
    · obtain rfl := (Option.some.inj hi).symm
      have e0 : A.eval (.tmp 47) = .int .i64 (k : Int) := hI.val hd 1 47 rfl rfl (by kernel_rfl)
      refine at_op rfl rfl (call_op rfl Tryz.func109 (by kernel_rfl) (by kernel_rfl) ?_)
      simp only [List.map_cons, List.map_nil, e0]
      refine (costOf_spec _ _).mono ?_
      rintro e W1 ⟨rfl, hb⟩
      exact ⟨_, rfl, _, rfl, rfl, by simpa using hg'.below hb⟩
    rcases ix with _ | ix
    · obtain rfl := (Option.some.inj hi).symm
      have e0 : A.eval (.tmp 9) = .int .i64 O := hI.old 9 (by kernel_rfl)
      exact at_op rfl rfl (move_op rfl ⟨_, rfl, e0, by simpa using hg'⟩)
    rcases ix with _ | ix
    · obtain rfl := (Option.some.inj hi).symm
      have e0 : A.eval (.tmp 2) = .pointer (some ⟨w0.heap.size, 0, none⟩) := hI.old 2 (by kernel_rfl)
      have e1 : A.eval (.tmp 46) = M.val x y := hI.val hd 0 46 rfl rfl (by kernel_rfl)
      have hres : MRow W w0.heap.size nil64 nil64 Mc.nul := by have := hg'.res; simpa [hL] using this
      refine at_op rfl rfl (sm_op' rfl e0 e1 hres (one_own hg'.ow.hx) (one_own hg'.ow.hy) (fun W1 hr hon => ⟨_, rfl, rfl, ?_⟩))
      have := hg'.lay hr hon (by omega) (by omega) (fun e => by have := (h.hx.lt _ e).2; omega) (fun e => by have := (h.hy.lt _ e).2; omega)
      simpa using this
    rcases ix with _ | ix
    · obtain rfl := (Option.some.inj hi).symm
      have e0 : A.eval (.tmp 48) = .int .i64 (line (k : Int)).2.2 := hI.val hd 2 48 rfl rfl (by kernel_rfl)
      exact at_op rfl rfl (assign_op rfl ⟨_, rfl, e0, by simpa using hg'⟩)
    rcases ix with _ | ix
    · obtain rfl := (Option.some.inj hi).symm
      have e0 : A.eval (.tmp 49) = .int .i64 O := hI.val hd 3 49 rfl rfl (by kernel_rfl)
      exact at_op rfl rfl (assign_op rfl ⟨_, rfl, e0, by simpa using hg'⟩)
    omega
  case done =>
    intro A W hI
    have hg' := hI.g
    have hres : MRow W w0.heap.size x y M := by have := hg'.res; simpa using this
    have a2 : A.tmps.getD 2 undef = .pointer (some ⟨w0.heap.size, 0, none⟩) := hI.old 2 (by kernel_rfl)
    have a3 : A.tmps.getD 3 undef = .int .i64 (line (k : Int)).2.2 := hI.last 5 3 rfl
    have a4 : A.tmps.getD 4 undef = .int .i64 O := hI.last 6 4 rfl
    go_wp2_with fail
    refine ret_mc3' rfl a2 hres hI.defers a3 a4 ?_
    rw [← HM.out, ← HQ.out]
    exact ⟨rfl, hg'.ow, hg'.but⟩
theorem l7Run_spec (hv : v = m.val x y) (h : Ow base w x y m) (hok : m.ok = true) : Calls Tryz.prog 30 #[v] w fun e w' => Ran base w w' e x y m.exec := by
  unfold Mc.exec
  cases hi : (m.h || m.s)
  · rw [if_neg (by decide)]
    by_cases hz : m.size' = 0
    · rw [if_pos hz]; exact l7Run_stuck hv h hok hi hz
    · rw [if_neg hz]
      have hc : 0 ≤ m.code ∧ m.code < 31 := by
        by_cases h : 0 ≤ m.code ∧ m.code < 31
        · exact h
        · exact absurd (by unfold Mc.size'; rw [size_no _ h]) hz
      obtain ⟨k, hk⟩ : ∃ k : Nat, m.code = (k : Int) := ⟨m.code.toNat, by omega⟩
      have hk31 : k < 31 := by omega
      rw [hk, Int.toNat_natCast]
      exact l7Run_does hv h hok hi k hk31 hk
  · rw [if_pos rfl]; exact l7Run_idle hv h hi
end
/-- What the model's Executed answers. -/
def AnsS (base : Nat) (w' : World) (e : Ending) (r : Mc × Int × Int) : Prop := ∃ v, e = .returned (.tuple #[v, .int .i64 r.2.1, .int .i64 r.2.2]) ∧ MOwn base w' v r.1
theorem executed_spec (v : Value) (m : Mc) (w : World) (hm : MSl w v m) :
    Calls Tryz.prog 8 #[v] w fun e w' => AnsS w.heap.size w' e m.execd ∧ Below w.heap.size w w' := by
  obtain ⟨vr, va, hv, hr, ha⟩ := hm
  cases hok : m.ok
  · have e : m.execd = (Mc.nul, 0, -1) := by simp [Mc.execd, hok]
    rw [e]
    go_enter Tryz.func8, Tryz.ntmps8
    go_wp2_with (first
      | (refine box_m rfl rfl hv ?_; intro w0 r0 hB0)
      | (refine al_mc rfl rfl ?_; intro w1 z1 hB1; have r1 := r0.below hB1; have hB2 := hB0.trans (hB1.mono hB0.size); have l0 := r0.lt)
      | (refine ld_mc rfl rfl rfl r1 ?_)
      | (go_at_call 10; refine (machineOk_spec _ m _ ⟨vr, va, rfl, hr.below hB2, ha.below hB2⟩).mono ?_; rintro e w2 ⟨rfl, hb2⟩; rw [hok]; have hB3 := hB2.trans (hb2.mono hB2.size); have z2 := z1.below hb2)
      | (refine bd_nul rfl rfl ?_)
      | (refine st_mc rfl rfl rfl rfl z2 rfl rfl ?_; intro w6 r6 o6 s6))
    refine ret_mc3' rfl rfl r6 rfl rfl rfl ?_
    exact ⟨⟨_, rfl, nul_own _ _⟩, below_onto hB3 o6 (by omega)⟩
  · have e : m.execd = m.exec := by simp [Mc.execd, hok]
    rw [e]
    obtain ⟨r, HR⟩ : ∃ r, Hid (r = m.exec) := ⟨_, show _ = _ from rfl⟩
    rw [← HR.out]
    clear e
    have hR := Mc.right hok
    have hR1 := hR.rom
    have hR2 : Hid (m.ram.length = 64) := hR.ram
    go_enter Tryz.func8, Tryz.ntmps8
    go_wp2_with (first
      | (refine box_m rfl rfl hv ?_; intro w0 r0 hB0)
      | (refine al_mc rfl rfl ?_; intro w1 z1 hB1; have r1 := r0.below hB1; have hB2 := hB0.trans (hB1.mono hB0.size); have l0 := r0.lt; have lz := z1.lt)
      | (refine ld_mc rfl rfl rfl r1 ?_)
      | (go_at_call 10; refine (machineOk_spec _ m _ ⟨vr, va, rfl, hr.below hB2, ha.below hB2⟩).mono ?_; rintro e w2 ⟨rfl, hb2⟩; rw [hok]; have hB3 := hB2.trans (hb2.mono hB2.size); have z2 := z1.below hb2; replace r1 := r1.below hb2)
      | (go_at_call 31; refine (l6Copy_spec _ m _ ⟨vr, va, rfl, hr.below hB3, ha.below hB3⟩ (by omega) (by have := hR2.out; omega)).mono ?_; rintro e w3 ⟨v3, rfl, ⟨x3, y3, rfl, hx3, hy3, ha3⟩, hb3⟩; have hB4 := hB3.trans (hb3.mono hB3.size); have z3 := z2.below hb3; have s23 := hb3.size; have l2 := z2.lt; have hw3 : Ow w2.heap.size w3 x3 y3 m := ⟨hx3, hy3, ha3, s23⟩; obtain ⟨g, hg, hgl⟩ := ram_block hy3 hok; have hg2 := (hy3.lt _ hg).1)
      | (go_at_call 30; refine (l7Run_spec rfl hw3 hok).mono ?_; rintro e w4 ⟨rfl, h4, hb4⟩; rw [← HR.out] at h4 ⊢; have z4 := hb4.row hg z3 (by omega); have hB5 : Below w.heap.size w w4 := below_onto hB4 (hb4 g hg) (by have := hB3.size; omega))
      | (refine st_mc rfl rfl rfl rfl z4 (one_own h4.hx) (one_own h4.hy) ?_; intro w6 r6 o6 s6))
    refine ret_mc3' rfl rfl r6 rfl rfl rfl ?_
    have h6 := h4.at o6 (fun e => by have := (h4.hx.lt _ e).1; omega) (fun e => by have := (h4.hy.lt _ e).1; omega)
    exact ⟨⟨_, rfl, x3, y3, rfl, h6.hx.mono (by have := hB3.size; omega), h6.hy.mono (by have := hB3.size; omega), h6.ap⟩, below_onto hB5 o6 (by omega)⟩
end Go.Proofs.YtmbncgeiaijnpaaGreatDoor.Mem
