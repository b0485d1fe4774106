/-
  Interrupts: the program's functions.
-/
import Derived.Test.YtocofjimkfffeaaGreatDoorIq
import Derived.Test.YtocofjimkfffeaaGreatDoorDe
import Derived.WalkMore
namespace Go.Proofs.YtocofjimkfffeaaGreatDoor.Mem
open Go.ChangeShapes Go.WideShapes Go.RowKit Base Num Slc Rw Tmr Srl Rom RomOf Opl Reg
set_option linter.unusedVariables false
set_option linter.unusedSimpArgs false

theorem interruptBit_impl (i : Int) (w : World) (hi : i = 0 ∨ i = 1 ∨ i = 2) :
    Calls Tryz.prog 122 #[.int .i64 i] w fun e w' => e = .returned (.int .i64 (bitOf i)) ∧ w = w' := by
  rcases hi with rfl | rfl | rfl
  all_goals
    go_enter Tryz.func122, Tryz.ntmps122
    go_wp2
    go_ret
    exact ⟨rfl, rfl⟩
theorem and_bit (f : Int) (h0 : 0 ≤ f) (h7 : f ≤ 7) (k : Nat) (hk : k < 3) : (bits .and .i64 f (bitOf (k : Int)) == 0) = decide (¬ f / 2 ^ k % 2 = 1) := by
  have h : ∀ a : Fin 8, ∀ b : Fin 3, (bits .and .i64 (a.val : Int) (bitOf (b.val : Int)) == 0) = decide (¬ (a.val : Int) / 2 ^ b.val % 2 = 1) := by decide +kernel
  obtain ⟨n, rfl⟩ : ∃ n : Nat, f = (n : Int) := ⟨f.toNat, by omega⟩
  exact h ⟨n, by omega⟩ ⟨k, hk⟩
set_option maxRecDepth 100000 in
theorem firstInBoth_impl (f s : Int) (w : World) (hf : 0 ≤ f ∧ f ≤ 7) (hs : 0 ≤ s ∧ s ≤ 7) :
    Calls Tryz.prog 55 #[.int .i64 f, .int .i64 s] w fun e w' => e = .returned (.int .i64 (pend f s)) ∧ ∃ n, w' = w.drewN n := by
  have HF : Hid (∀ k : Nat, k < 3 → (bits .and .i64 f (bitOf (k : Int)) == 0) = decide (¬ f / 2 ^ k % 2 = 1)) := fun k hk => and_bit f hf.1 hf.2 k hk
  have HS : Hid (∀ k : Nat, k < 3 → (bits .and .i64 s (bitOf (k : Int)) == 0) = decide (¬ s / 2 ^ k % 2 = 1)) := fun k hk => and_bit s hs.1 hs.2 k hk
  have HP : Hid (∀ k : Nat, k < 3 → noneTo f s k → f / 2 ^ k % 2 = 1 → s / 2 ^ k % 2 = 1 → pend f s = k) := fun k hk h h1 h2 => pend_at hk h h1 h2
  have HN : Hid (noneTo f s 3 → pend f s = -1) := fun h => pend_no h
  clear hf hs
  have i0 : ∀ w, (Instr.index 106 (.agg #[.int .i64 f, .int .i64 s]) (.int .i64 0)).run Tryz.prog w = .ok (.int .i64 f) w := fun w => by kernel_rfl
  have i1 : ∀ w, (Instr.index 106 (.agg #[.int .i64 f, .int .i64 s]) (.int .i64 1)).run Tryz.prog w = .ok (.int .i64 s) w := fun w => by kernel_rfl
  go_enter Tryz.func55, Tryz.ntmps55
  go_wp2
  go_step3
  go_wp2
  go_step3
  go_wp2
  go_loopw [8] (fun i wr => ∃ k : Nat, k ≤ 3 ∧ i = .int .i64 k ∧ noneTo f s k ∧ ∃ n, wr = w.drewN n) (fun i _ => 3 - (intOf i).toNat)
  case atStart => exact ⟨0, by omega, rfl, fun j hj => by omega, 0, rfl⟩
  case round =>
    obtain ⟨k, hk, rfl, hn, n, rfl⟩ := hrel
    by_cases h3 : k = 3
    · subst h3
      have hp := HN.out hn
      go_wp2
      try rw [Exit.noGoto_ret]
      go_ret
      exact ⟨ret_int (by rw [hp]), n, rfl⟩
    · have hk3 : k < 3 := by omega
      have a1 := HF.out k hk3
      have a2 := HS.out k hk3
      have a3 := HP.out k hk3 hn
      have a4 : ¬ (f / 2 ^ k % 2 = 1 ∧ s / 2 ^ k % 2 = 1) → noneTo f s (k + 1) := noneTo_succ hn
      obtain ⟨b, HB⟩ : ∃ b, Hid (bitOf (k : Int) = b) := ⟨_, show _ = _ from rfl⟩
      rw [HB.out] at a1 a2
      have hkd : decide ((k : Int) < 3) = true := by simp; omega
      clear HF HS HP HN h3 hk
      by_cases h1 : f / 2 ^ k % 2 = 1
      · simp only [h1, not_true, decide_false] at a1
        by_cases h2 : s / 2 ^ k % 2 = 1
        · simp only [h2, not_true, decide_false] at a2
          have HE : Hid (pend f s = k) := a3 h1 h2
          clear a3 a4 h1 h2 hn
          go_wp2
          go_loopw [14] (fun j wr => ∃ q : Nat, q ≤ 2 ∧ j = .int .i64 q ∧ ∃ n, wr = w.drewN n) (fun j _ => 2 - (intOf j).toNat)
          case atStart => exact ⟨0, by omega, rfl, n, rfl⟩
          case round =>
            obtain ⟨q, hq, rfl, n', rfl⟩ := hrel
            obtain rfl | rfl | rfl : q = 0 ∨ q = 1 ∨ q = 2 := by omega
            · go_wp2_with (go_at_call 122; refine (interruptBit_impl _ _ (by omega)).mono ?_; rintro e w1 ⟨rfl, rfl⟩; rw [HB.out])
              go_roundw
              case rel => exact ⟨1, by omega, rfl, n', rfl⟩
              case measure => simp [intOf]
            · go_wp2_with (go_at_call 122; refine (interruptBit_impl _ _ (by omega)).mono ?_; rintro e w1 ⟨rfl, rfl⟩; rw [HB.out])
              go_roundw
              case rel => exact ⟨2, by omega, rfl, n', rfl⟩
              case measure => simp [intOf]
            · go_wp2
              try rw [Exit.noGoto_ret]
              go_ret
              exact ⟨ret_int (by rw [HE.out]), n', rfl⟩
        · simp only [h2, not_false_eq_true, decide_true] at a2
          have HE : Hid (noneTo f s (k + 1)) := a4 (fun e => h2 e.2)
          clear a3 a4 h1 h2 hn
          go_wp2
          go_loopw [14] (fun j wr => ∃ q : Nat, q ≤ 1 ∧ j = .int .i64 q ∧ ∃ n, wr = w.drewN n) (fun j _ => 2 - (intOf j).toNat)
          case atStart => exact ⟨0, by omega, rfl, n, rfl⟩
          case round =>
            obtain ⟨q, hq, rfl, n', rfl⟩ := hrel
            obtain rfl | rfl : q = 0 ∨ q = 1 := by omega
            · go_wp2_with (go_at_call 122; refine (interruptBit_impl _ _ (by omega)).mono ?_; rintro e w1 ⟨rfl, rfl⟩; rw [HB.out])
              go_roundw
              case rel => exact ⟨1, by omega, rfl, n', rfl⟩
              case measure => simp [intOf]
            · go_wp2_with (go_at_call 122; refine (interruptBit_impl _ _ (by omega)).mono ?_; rintro e w1 ⟨rfl, rfl⟩; rw [HB.out])
              go_roundw
              case rel => exact ⟨k + 1, by omega, by go_num, HE.out, n', rfl⟩
              case measure => simp [intOf]; omega
      · simp only [h1, not_false_eq_true, decide_true] at a1
        have HE : Hid (noneTo f s (k + 1)) := a4 (fun e => h1 e.1)
        clear a3 a4 h1 hn a2
        go_wp2
        go_loopw [14] (fun j wr => j = .int .i64 0 ∧ ∃ n, wr = w.drewN n) (fun j _ => 2 - (intOf j).toNat)
        case atStart => exact ⟨rfl, n, rfl⟩
        case round =>
          obtain ⟨rfl, n', rfl⟩ := hrel
          go_wp2_with (go_at_call 122; refine (interruptBit_impl _ _ (by omega)).mono ?_; rintro e w1 ⟨rfl, rfl⟩; rw [HB.out])
          go_roundw
          case rel => exact ⟨k + 1, by omega, by go_num, HE.out, n', rfl⟩
          case measure => simp [intOf]; omega
theorem pendingIn_impl (v : Value) (m : Mc) (w : World) (hm : MSl w v m) :
    Calls Tryz.prog 18 #[v] w fun e w' => e = .returned (.int .i64 m.pendIn) ∧ Below w.heap.size w w' := by
  obtain ⟨vr, va, hv, hr, ha⟩ := hm
  have HP : Hid (m.pendIn = if m.ok then m.pend else -1) := show _ = _ from rfl
  cases hok : m.ok
  · go_enter Tryz.func18, Tryz.ntmps18
    go_wp2_with (first
      | (refine box_m rfl rfl hv ?_; intro w0 r0 hB0)
      | (refine ld_mc rfl rfl rfl r0 ?_)
      | (go_at_call 14; refine (machineOk_impl _ m _ ⟨vr, va, rfl, hr.below hB0, ha.below hB0⟩).mono ?_; rintro e w2 ⟨rfl, hb2⟩; rw [hok]; have hB3 := hB0.trans (hb2.mono hB0.size)))
    go_ret
    exact ⟨ret_int (by rw [HP.out, hok]; rfl), hB3⟩
  · obtain ⟨hf, hs⟩ := Mc.ok_parts hok
    go_enter Tryz.func18, Tryz.ntmps18
    go_wp2_with (first
      | (refine box_m rfl rfl hv ?_; intro w0 r0 hB0)
      | (refine ld_mc rfl rfl rfl r0 ?_)
      | (go_at_call 14; refine (machineOk_impl _ m _ ⟨vr, va, rfl, hr.below hB0, ha.below hB0⟩).mono ?_; rintro e w2 ⟨rfl, hb2⟩; rw [hok]; have hB3 := hB0.trans (hb2.mono hB0.size); replace r0 := r0.below hb2; have k1 := (cw r0).fl; have k2 := (cw r0).ms)
      | (go_at_call 55; refine (firstInBoth_impl _ _ _ hf hs).mono ?_; rintro e w3 ⟨rfl, n3, h3⟩; have hB4 := hB3.trans ((drew_below h3).mono hB3.size); clear h3))
    go_ret
    exact ⟨ret_int (by rw [HP.out, hok]; rfl), hB4⟩
theorem sub64 (i j : Int) (x y : Operand) (w : World) (h0 : -9223372036854775808 ≤ i - j) (h1 : i - j ≤ 9223372036854775807) : (do eqGuard .sub 2 x y (.int .i64 i) (.int .i64 j); binOp .sub 2 (.int .i64 i) (.int .i64 j) : Sem Value).run Tryz.prog w = .ok (.int .i64 (i - j)) w := by
  have e : IntKind.i64.wrap (i - j) = i - j := by
    simp [IntKind.wrap, IntKind.bits, IntKind.signed]
    omega
  have : (do eqGuard .sub 2 x y (.int .i64 i) (.int .i64 j); binOp .sub 2 (.int .i64 i) (.int .i64 j) : Sem Value).run Tryz.prog w = .ok (.int .i64 (IntKind.i64.wrap (i - j))) w := by simp [go_sem]
  rw [this, e]
/-- The block of a list is no block of another type. -/
theorem own_not_row {base : Nat} {w : World} {v : Value} {l : List Int} {g : Nat} {cs : Array Value} {T : TypeId} (h : Own base w v l) (hr : Row w g cs T) (hT : T ≠ 2) : v.ownBlock ≠ some g := fun e => by
  rcases h.2 with ⟨rfl, _⟩ | ⟨g', cap, cur, rfl, _, hb, _⟩
  · simp [Value.ownBlock] at e
  · have e' : g' = g := Option.some.inj e
    rw [e', hr.row] at hb
    simp only [Option.some.injEq, Obj.cells.injEq] at hb
    exact hT hb.2.1
/-- What stands while one is called away. -/
structure Ca (w : World) (base gr : Nat) (x y : Value) (m M : Mc) (W : World) : Prop where
  row : MRow W w.heap.size x y M
  res : MRow W gr nil64 nil64 Mc.nul
  ow : Ow base W x y m
  bel : Below w.heap.size w W
theorem Ca.drew {w : World} {base gr : Nat} {x y : Value} {m M : Mc} {W : World} (h : Ca w base gr x y m M W) : Ca w base gr x y m M W.drew :=
  ⟨h.row.drewN 1, h.res.drewN 1, h.ow.below (drew_below (n := 1) rfl), h.bel.drew⟩
theorem dall0 {x y : Value} (hx : x.oneCell' = true) (hy : y.oneCell' = true) (m : Mc) (n o : Int) : (dcells x y m n o).all (·.oneCell') = true := by
  unfold Value.oneCell' at hx hy
  simp only [dcells, List.all_toArray, List.all_cons, List.all_nil, Value.oneCell', hx, hy, Bool.and_true]
section
variable {ops : Array Oper} {rest : List Oper} {o : Oper} {a : Act} {w : World} {Q : Exit → Act → World → Prop} {p q : Operand} {g k : Nat} {x y : Value} {m : Mc}
theorem al_d0 (hgd : o.guard = none) (ho : o.op = .alloc 58)
    (h : ∀ w', DRow w' w.heap.size nil64 nil64 Mc.nul 0 0 → Below w.heap.size w w' → wpList Tryz.prog ops Q rest (a.put o.dst (.pointer (some ⟨w.heap.size, 0, none⟩))) w') : wpList Tryz.prog ops Q (o :: rest) a w :=
  wpList_plain hgd fun _ hK => by
    have e : (execOp a.eval o).run Tryz.prog w = .ok (.value (.pointer (some ⟨w.heap.size, 0, none⟩))) (w.alloc (.cells (dcells nil64 nil64 Mc.nul 0 0) 58)) := by
      unfold execOp
      rw [ho]
      kernel_rfl
    unfold Oper.wp
    rw [e]
    exact hK _ _ (h _ (Row.new _ _ _) ((Below.refl _ _).alloc (Nat.le_refl _) _))
theorem st_d0 {x0 y0 : Value} {m0 : Mc} {n0 o0 n1 o1 : Int} (hgd : o.guard = none) (ho : o.op = .store 58 p q) (hx : a.eval p = .pointer (some ⟨g, 0, none⟩)) (hy : a.eval q = .agg (dcells x y m n1 o1)) (hr : DRow w g x0 y0 m0 n0 o0) (h1 : x.oneCell' = true) (h2 : y.oneCell' = true)
    (h : ∀ w', DRow w' g x y m n1 o1 → Onto g w w' → w'.heap.size = w.heap.size → wpList Tryz.prog ops Q rest (a.put o.dst undef) w') : wpList Tryz.prog ops Q (o :: rest) a w :=
  st_row hgd _ p q ho hx hy hr info_de rfl (dall0 h1 h2 m _ _) h
end
theorem built_d0 (x y : Value) (m : Mc) : Tryz.prog.built 58 [(0, m.val x y)] = some (dcells x y m 0 0) := by kernel_rfl
theorem bd_d0 {ops : Array Oper} {rest : List Oper} {o : Oper} {a : Act} {w : World} {Q : Exit → Act → World → Prop} {p : Operand} {x y : Value} {m : Mc} (hgd : o.guard = none) (ho : o.op = .build 58 #[(0, p)]) (hp : a.eval p = m.val x y) (h : wpList Tryz.prog ops Q rest (a.put o.dst (.agg (dcells x y m 0 0))) w) : wpList Tryz.prog ops Q (o :: rest) a w :=
  wpList_plain hgd fun _ hK => build_op (parts := [(0, p)]) (vals := [(0, m.val x y)]) ho (by simp only [List.map_cons, List.map_nil, hp]) (built_d0 x y m) (hK _ _ h)
/-- A byte is pushed, whatever stands as what went out. -/
theorem push_any {base : Nat} {w : World} {g : Nat} {x y : Value} {m : Mc} {n o : Int} (h : DSt base w g x y m n o) (hok : m.ok = true) (z : Int) (hz : bok z = true) :
    Calls Tryz.prog 100 #[.pointer (some ⟨g, 0, none⟩), .int .i64 z] w fun e w' => e = .returned (.tuple #[]) ∧ ∃ o', Done base w w' g (m.psh z) n o' := by
  have hc := (dw h.row).sp
  have e1 := sub_one (okm.1 hok).sp
  have HE : Hid (({ m with sp := (m.sp + 255) % 256 } : Mc).writtenAt ((m.sp + 255) % 256) z = m.psh z) := writtenAt_ok (ok_sp hok _) (bok_mod _) hz
  generalize hs : (m.sp + 255) % 256 = s at HE e1
  clear hs
  go_enter Tryz.func100, Tryz.ntmps100
  go_wp2_with (first
    | (go_at_call 82; refine (subByte_impl _ _ _).mono ?_; rintro e w0 ⟨rfl, rfl⟩; rw [e1])
    | (refine st_dn (m' := { m with sp := s }) (n' := n) (o' := o) rfl rfl rfl rfl h.row rfl rfl ?_; intro w1 r1 o1 s1; have h1 := h.set r1 o1 rfl rfl; have hc1 := (dw r1).sp)
    | (go_at_call 75; refine (write_impl h1 _ _).mono ?_; rintro e w2 ⟨rfl, x2, y2, h2, o2⟩))
  refine ret_unit rfl rfl ?_
  have he := HE.out
  rw [he] at h2
  exact ⟨rfl, _, .mk h2 (o1.trans o2)⟩
set_option maxRecDepth 20000 in
theorem calledAway_impl (x y : Value) (m : Mc) (w : World) (base : Nat) (i : Int) (hi : i = 0 ∨ i = 1 ∨ i = 2) (h : Ow base w x y m) (hok : m.ok = true) (hc : m.pend = i) :
    Calls Tryz.prog 53 #[m.woken.val x y, .int .i64 i] w fun e w' => ∃ v, e = .returned v ∧ MOwn base w' v (m.away i) ∧ Below w.heap.size w w' := by
  have hf := inn_true (okm.1 hok).fl
  have hT := taken_ok hok hc (by omega)
  have hT' := inn_true (okm.1 hT).fl
  have HT : Hid ((m.taken i).ok = true) := hT
  have hpc := (okm.1 hok).pc
  have hle := h.le
  have hxl := h.hx.lt
  have hyl := h.hy.lt
  clear hT
  obtain ⟨vv, hvv⟩ : ∃ vv, vv = m.woken.val x y := ⟨_, rfl⟩
  rw [← hvv]
  go_enter Tryz.func53, Tryz.ntmps53
  go_wp2_with (first
    | (refine box_m rfl rfl hvv ?_; intro w0 r0 hB0)
    | (refine al_mc rfl rfl ?_; intro w1 z1 hB1; have r1 := r0.below hB1; have hB2 := hB0.trans (hB1.mono hB0.size); have l0 := r0.lt; have lz := z1.lt)
    | (refine st_yes (m' := { m.woken with e := false }) rfl rfl rfl rfl r1 rfl rfl ?_; intro w2 r2 o2 s2; have z2 := z1.onto o2 (by omega); have hB3 := below_onto hB2 o2 (by omega); have h2 := h.below hB3))
  have hG : Ca w base w0.heap.size x y m { m.woken with e := false } w2 := ⟨r2, z2, h2, hB3⟩
  refine region_last (by kernel_rfl) (by kernel_rfl) 6 (by decide) (by kernel_rfl) (by kernel_rfl) (fun W => Ca w base w0.heap.size x y m { m.woken with e := false } W) (fun W => Ca w base w0.heap.size x y m (m.taken i) W)
    [.pointer (some ⟨w.heap.size, 11, none⟩), .int .i64 m.fl, .int .i64 i, .int .i64 (bitOf i), .int .i64 (m.fl - bitOf i), .pointer (some ⟨w.heap.size, 11, none⟩), undef] hG.drew ?step ?last ?done
  case step =>
    intro L ix o' A W hne hj hI hg hd
    have hin : ix < 7 := by
      by_cases hl : ix < 7
      · exact hl
      · simp [hl] at hj
    rcases ix with _ | ix
    · obtain rfl := (Option.some.inj hj).symm
      have e0 : A.eval (.tmp 2) = .pointer (some ⟨w.heap.size, 0, none⟩) := hI.old 2 (by kernel_rfl)
      refine at_op rfl rfl (val_op (v := .pointer (some ⟨w.heap.size, 11, none⟩)) ?_ ⟨_, rfl, rfl, hg⟩)
      unfold execOp
      simp only [List.getElem_toArray, List.getElem_cons_zero, List.getElem_cons_succ, e0]
      simp [go_sem]
    rcases ix with _ | ix
    · obtain rfl := (Option.some.inj hj).symm
      have e0 : A.eval (.tmp 7) = .pointer (some ⟨w.heap.size, 11, none⟩) := hI.val hd 0 7 rfl rfl (by kernel_rfl)
      exact at_op rfl rfl (load_op rfl Tryz.underlying2 e0 (cw hg.row).fl ⟨_, rfl, rfl, hg⟩)
    rcases ix with _ | ix
    · obtain rfl := (Option.some.inj hj).symm
      have e0 : A.eval (.tmp 1) = .int .i64 i := hI.old 1 (by kernel_rfl)
      exact at_op rfl rfl (move_op rfl ⟨_, rfl, e0, hg⟩)
    rcases ix with _ | ix
    · obtain rfl := (Option.some.inj hj).symm
      have e0 : A.eval (.tmp 9) = .int .i64 i := hI.val hd 2 9 rfl rfl (by kernel_rfl)
      refine at_op rfl rfl (call_op rfl Tryz.func122 (by kernel_rfl) (by kernel_rfl) ?_)
      simp only [List.map_cons, List.map_nil, e0]
      refine (interruptBit_impl i _ hi).mono ?_
      rintro e w1 ⟨rfl, rfl⟩
      exact ⟨_, rfl, _, rfl, rfl, hg⟩
    rcases ix with _ | ix
    · obtain rfl := (Option.some.inj hj).symm
      have e0 : A.eval (.tmp 8) = .int .i64 m.fl := hI.val hd 1 8 rfl rfl (by kernel_rfl)
      have e1 : A.eval (.tmp 10) = .int .i64 (bitOf i) := hI.val hd 3 10 rfl rfl (by kernel_rfl)
      have hT2 : 0 ≤ m.fl - bitOf i ∧ m.fl - bitOf i ≤ 7 := hT'
      exact at_op rfl rfl (bin_op rfl e0 e1 (fun w => sub64 _ _ _ _ w (by omega) (by omega)) ⟨_, rfl, rfl, hg⟩)
    rcases ix with _ | ix
    · obtain rfl := (Option.some.inj hj).symm
      have e0 : A.eval (.tmp 2) = .pointer (some ⟨w.heap.size, 0, none⟩) := hI.old 2 (by kernel_rfl)
      refine at_op rfl rfl (val_op (v := .pointer (some ⟨w.heap.size, 11, none⟩)) ?_ ⟨_, rfl, rfl, hg⟩)
      unfold execOp
      simp only [List.getElem_toArray, List.getElem_cons_zero, List.getElem_cons_succ, e0]
      simp [go_sem]
    rcases ix with _ | ix
    · exact absurd rfl hne
    omega
  case last =>
    intro L o' A W hj hI hg hd
    obtain rfl := (Option.some.inj hj).symm
    have e0 : A.eval (.tmp 12) = .pointer (some ⟨w.heap.size, 11, none⟩) := hI.val hd 5 12 rfl rfl (by kernel_rfl)
    have e1 : A.eval (.tmp 11) = .int .i64 (m.fl - bitOf i) := hI.val hd 4 11 rfl rfl (by kernel_rfl)
    refine at_op rfl rfl (sw_in rfl e0 e1 hg.row rfl info_i (by rw [Mc.size]; omega) ?_)
    intro W1 r1 ho
    have hb := hg.bel.size
    exact ⟨_, rfl, rfl, r1, hg.res.onto ho (by omega), hg.ow.at ho (fun e => by have := (hxl _ e).2; omega) (fun e => by have := (hyl _ e).2; omega), below_onto hg.bel ho (Nat.le_refl _)⟩
  case done =>
    intro A W hI hE
    have hA := hI.frame [7, 8, 9, 10, 11, 12] (by kernel_rfl)
    rw [hA]
    clear hA hI
    simp only [putAll, List.foldl_cons, List.foldl_nil, Act.put, List.setIfInBounds_toArray, List.set_cons_zero, List.set_cons_succ]
    obtain ⟨r3, z3, h3, hB4⟩ := hE
    have hs3 := hB4.size
    have l3 := z3.lt
    have k3 : W.cell? ⟨w.heap.size, 4, none⟩ = some (.int .i64 m.pc) := (cw r3).pc
    clear r0 r1 r2 z1 z2 h2 hG hB0 hB1 hB2 hB3 o2
    go_wp2_with (first
      | (refine ld_mc rfl rfl rfl r3 ?_)
      | (refine bd_d0 rfl rfl rfl ?_)
      | (refine al_d0 rfl rfl ?_; intro w4 d4 hb4; have hB5 := hB4.trans (hb4.mono hB4.size); have z4 := z3.below hb4; have h4 := h3.below hb4; have k4 : w4.cell? ⟨w.heap.size, 4, none⟩ = some (.int .i64 m.pc) := (cw (r3.below hb4)).pc; have l4 := d4.lt; clear k3)
      | (refine st_d0 rfl rfl rfl rfl d4 (one_own h.hx) (one_own h.hy) ?_; intro w5 d5 o5 s5; have z5 := z4.onto o5 (by omega); have r5 := (r3.below hb4).onto o5 (by omega); have k5 : w5.cell? ⟨w.heap.size, 4, none⟩ = some (.int .i64 m.pc) := (cw r5).pc
         have D5 : DSt base w5 W.heap.size x y (m.taken i) 0 0 := ⟨d5, h4.hx.onto o5 (fun e => by have := hxl _ e; omega), h4.hy.onto o5 (fun e => by have := hyl _ e; omega), h.ap, fun e => by have := hxl _ e; omega, fun e => by have := hyl _ e; omega, by omega⟩
         have hB6 := below_onto hB5 o5 (by omega); clear k4)
      | (go_at_call 100; refine (push_any D5 HT.out _ hpc).mono ?_; rintro e w6 ⟨rfl, q6, x6, y6, D6, o6⟩; have z6 := z5.onto o6 (by omega); have hB7 := below_onto hB6 o6 (by omega))
      | (refine st_dn (m' := m.away i) (n' := 0) (o' := q6) rfl rfl rfl rfl D6.row rfl rfl ?_; intro w7 r7 o7 s7; have D7 := D6.set r7 o7 rfl rfl; have z7 := z6.onto o7 (by omega); have hB8 := below_onto hB7 o7 (by omega))
      | (refine ld_dm rfl rfl rfl D7.row ?_)
      | (refine st_mc rfl rfl rfl rfl z7 (one_own D7.hx) (one_own D7.hy) ?_; intro w8 r8 o8 s8))
    refine ret_mc rfl rfl r8 rfl ?_
    exact ⟨_, rfl, ⟨x6, y6, rfl, D7.hx.onto o8 (own_not_row D7.hx z7 (by decide)), D7.hy.onto o8 (own_not_row D7.hy z7 (by decide)), D7.ap⟩, below_onto hB8 o8 (by omega)⟩
theorem interrupted_impl (v : Value) (m : Mc) (w : World) (hm : MSl w v m) :
    Calls Tryz.prog 16 #[v] w fun e w' => AnsI w.heap.size w' e m.called ∧ Below w.heap.size w w' := by
  obtain ⟨vr, va, hv, hr, ha⟩ := hm
  cases hok : m.ok
  · have e : m.called = (Mc.nul, -1) := by simp [Mc.called, hok]
    rw [e]
    go_enter Tryz.func16, Tryz.ntmps16
    go_wp2_with (first
      | (refine box_m rfl rfl hv ?_; intro w0 r0 hB0)
      | (refine al_mc rfl rfl ?_; intro w1 z1 hB1; have r1 := r0.below hB1; have hB2 := hB0.trans (hB1.mono hB0.size); have l0 := r0.lt)
      | (refine ld_mc rfl rfl rfl r1 ?_)
      | (go_at_call 14; refine (machineOk_impl _ m _ ⟨vr, va, rfl, hr.below hB2, ha.below hB2⟩).mono ?_; rintro e w2 ⟨rfl, hb2⟩; rw [hok]; have hB3 := hB2.trans (hb2.mono hB2.size); have z2 := z1.below hb2)
      | (refine bd_nul rfl rfl ?_)
      | (refine st_mc rfl rfl rfl rfl z2 rfl rfl ?_; intro w6 r6 o6 s6))
    refine ret_mc2 rfl rfl r6 rfl rfl ?_
    exact ⟨⟨_, rfl, nul_own _ _⟩, below_onto hB3 o6 (by omega)⟩
  · have e : m.called = m.call := by simp [Mc.called, hok]
    rw [e]
    have hR := Mc.right hok
    have hR1 := hR.rom
    have hR2 : Hid (m.ram.length = 64) := hR.ram
    have hpi : m.pendIn = m.pend := by simp [Mc.pendIn, hok]
    have hp : m.pend = -1 ∨ m.pend = 0 ∨ m.pend = 1 ∨ m.pend = 2 := pend_in m.fl m.ms
    obtain ⟨r, HR⟩ : ∃ r, Hid (r = m.call) := ⟨_, show _ = _ from rfl⟩
    rw [← HR.out]
    clear e
    have hq : Hid (m.ok = true) := hok
    go_enter Tryz.func16, Tryz.ntmps16
    go_wp2_with (first
      | (refine box_m rfl rfl hv ?_; intro w0 r0 hB0)
      | (refine al_mc rfl rfl ?_; intro w1 z1 hB1; have r1 := r0.below hB1; have hB2 := hB0.trans (hB1.mono hB0.size); have l0 := r0.lt; have lz := z1.lt)
      | (refine ld_mc rfl rfl rfl r1 ?_)
      | (go_at_call 14; refine (machineOk_impl _ m _ ⟨vr, va, rfl, hr.below hB2, ha.below hB2⟩).mono ?_; rintro e w2 ⟨rfl, hb2⟩; rw [hok]; have hB3 := hB2.trans (hb2.mono hB2.size); have z2 := z1.below hb2; replace r1 := r1.below hb2))
    go_at_call 30
    refine (machineCopy_impl _ m _ ⟨vr, va, rfl, hr.below hB3, ha.below hB3⟩ (by omega) (by have := hR2.out; omega) (by omega) (by have := hR2.out; omega)).mono ?_
    rintro e w4 ⟨v4, rfl, ⟨x4, y4, rfl, ho4, hp4, ha4⟩, hb4⟩
    have hB4 := hB3.trans (hb4.mono hB3.size)
    have z4 := z2.below hb4
    have s34 := z2.lt
    have r4 := r1.below hb4
    have lr4 := r4.lt
    have lz4 := z4.lt
    have sB3 := hB3.size
    have sb4 := hb4.size
    have hxl := ho4.lt
    have hyl := hp4.lt
    clear z1 z2 r1
    go_wp2_with (first
      | (refine al_mc rfl rfl ?_; intro w5 z5 hB5; have lz5 := z5.lt; have r5 := r4.below hB5; have z5' := z4.below hB5; have hp5 := hp4.below hB5; have ho5 := ho4.below hB5)
      | (refine st_mc rfl rfl rfl rfl z5 (one_own ho4) (one_own hp4) ?_; intro w6 c6 o6 s6; have hp6 := hp5.onto o6 (fun e => by have := hyl _ e; omega); have ho6 := ho5.onto o6 (fun e => by have := hxl _ e; omega); have z6 := z5'.onto o6 (by omega); have r6 := r5.onto o6 (by omega); have hB6 := below_onto (hB4.trans (hB5.mono hB4.size)) o6 (by have := hB4.size; omega))
      | (refine ld_mc rfl rfl rfl r6 ?_))
    go_at_call 18
    refine (pendingIn_impl _ m _ ⟨vr, va, rfl, hr.below hB6, ha.below hB6⟩).mono ?_
    rintro e w7 ⟨rfl, hb7⟩
    rw [hpi]
    have hB7 := hB6.trans (hb7.mono hB6.size)
    have z7 := z6.below hb7
    have c7 := c6.below hb7
    have q7 := r6.below hb7
    have hp7 := hp6.below hb7
    have ho7 := ho6.below hb7
    have ks := (cw q7).s
    have ke := (cw q7).e
    have l7 := c7.lt
    have hw7 : Ow w2.heap.size w7 x4 y4 m := ⟨ho7, hp7, ha4, by omega⟩
    clear r0 r4 r5 r6 c6 z4 z5 z5' z6 hp5 ho5 hp6 ho6 hpi
    obtain ⟨P, HP⟩ : ∃ P, Hid (m.pend = P) := ⟨_, show _ = _ from rfl⟩
    rw [HP.out] at hp ⊢
    by_cases h0 : P < 0
    · have hr' : r = (m, -1) := by rw [HR.out]; unfold Mc.call; rw [HP.out, if_pos (.inl h0)]
      have HR' : Hid (r = (m, -1)) := hr'
      clear hr'
      obtain rfl : P = -1 := by omega
      go_wp2_with (first
        | (refine ld_mc rfl rfl rfl c7 ?_)
        | (refine st_mc rfl rfl rfl rfl z7 (one_own ho7) (one_own hp7) ?_; intro w8 r8 o8 s8))
      refine ret_mc2 rfl rfl r8 rfl rfl ?_
      rw [HR'.out]
      exact ⟨⟨_, rfl, x4, y4, rfl, (ho7.onto o8 (own_not_row ho7 z7 (by decide))).mono (by omega), (hp7.onto o8 (own_not_row hp7 z7 (by decide))).mono (by omega), ha4⟩, below_onto hB7 o8 (by omega)⟩
    · have hp1 : (P == -1) = false := by simp; omega
      cases hs : m.s
      · rw [hs] at ks
        cases he : m.e
        · rw [he] at ke
          have HR' : Hid (r = (m.woken, -1)) := show _ = _ by rw [HR.out]; unfold Mc.call; rw [HP.out, hs, if_neg (by simp; omega), he, if_pos rfl]
          go_wp2_with (first
            | (refine st_yes (m' := m.woken) rfl rfl rfl rfl c7 rfl rfl ?_; intro w8 c8 o8 s8; have z8 := z7.onto o8 (by omega); have q8 := q7.onto o8 (by omega); have ke8 := (cw q8).e; rw [he] at ke8; have ho8 := ho7.onto o8 (own_not_row ho7 c7 (by decide)); have hp8 := hp7.onto o8 (own_not_row hp7 c7 (by decide)); have hB8 := below_onto hB7 o8 (by omega))
            | (refine ld_mc rfl rfl rfl c8 ?_)
            | (refine st_mc rfl rfl rfl rfl z8 (one_own ho7) (one_own hp7) ?_; intro w9 r9 o9 s9))
          refine ret_mc2 rfl rfl r9 rfl rfl ?_
          rw [HR'.out]
          exact ⟨⟨_, rfl, x4, y4, rfl, (ho8.onto o9 (own_not_row ho8 z8 (by decide))).mono (by omega), (hp8.onto o9 (own_not_row hp8 z8 (by decide))).mono (by omega), ha4⟩, below_onto hB8 o9 (by omega)⟩
        · rw [he] at ke
          have HR' : Hid (r = (m.away P, P)) := show _ = _ by rw [HR.out]; unfold Mc.call; rw [HP.out, hs, if_neg (by simp; omega), he, if_neg (by decide)]
          go_wp2_with (first
            | (refine st_yes (m' := m.woken) rfl rfl rfl rfl c7 rfl rfl ?_; intro w8 c8 o8 s8; have z8 := z7.onto o8 (by omega); have q8 := q7.onto o8 (by omega); have ke8 := (cw q8).e; rw [he] at ke8; have hw8 := hw7.at o8 (own_not_row ho7 c7 (by decide)) (own_not_row hp7 c7 (by decide)); have hB8 := below_onto hB7 o8 (by omega))
            | (refine ld_mc rfl rfl rfl c8 ?_)
            | (go_at_call 53; refine (calledAway_impl _ _ m _ w2.heap.size P (by omega) hw8 hq.out HP.out).mono ?_; rintro e w9 ⟨v9, rfl, ⟨x9, y9, rfl, hx9, hy9, ha9⟩, hb9⟩; have z9 := z8.below hb9; have hB9 := hB8.trans (hb9.mono hB8.size))
            | (refine st_mc rfl rfl rfl rfl z9 (one_own hx9) (one_own hy9) ?_; intro w10 r10 o10 s10))
          refine ret_mc2 rfl rfl r10 rfl rfl ?_
          rw [HR'.out]
          exact ⟨⟨_, rfl, x9, y9, rfl, (hx9.onto o10 (own_not_row hx9 z9 (by decide))).mono (by omega), (hy9.onto o10 (own_not_row hy9 z9 (by decide))).mono (by omega), ha9⟩, below_onto hB9 o10 (by omega)⟩
      · rw [hs] at ks
        have HR' : Hid (r = (m, -1)) := show _ = _ by rw [HR.out]; unfold Mc.call; rw [if_pos (.inr hs)]
        go_wp2_with (first
          | (refine ld_mc rfl rfl rfl c7 ?_)
          | (refine st_mc rfl rfl rfl rfl z7 (one_own ho7) (one_own hp7) ?_; intro w8 r8 o8 s8))
        refine ret_mc2 rfl rfl r8 rfl rfl ?_
        rw [HR'.out]
        exact ⟨⟨_, rfl, x4, y4, rfl, (ho7.onto o8 (own_not_row ho7 z7 (by decide))).mono (by omega), (hp7.onto o8 (own_not_row hp7 z7 (by decide))).mono (by omega), ha4⟩, below_onto hB7 o8 (by omega)⟩
theorem called_len {m M : Mc} {C : Int} (h : m.called = (M, C)) : M.rom.length ≤ 4000000 ∧ M.ram.length ≤ 4000000 := by
  have e : M = m.called.1 := by rw [h]
  rw [e]
  unfold Mc.called
  cases hok : m.ok
  · exact ⟨by simp [Mc.nul], by simp [Mc.nul]⟩
  · rw [if_pos rfl]
    have hR := Mc.right (call_like hok).1
    have h1 := hR.rom
    have h2 := hR.ram
    omega
theorem interrupted_spec' {m M : Mc} {C : Int} (h : m.called = (M, C)) (v : Value) (w : World) (hm : MSl w v m) :
    Calls Tryz.prog 17 #[v] w fun e w' => ∃ v', e = .returned (.tuple #[v', .int .i64 C]) ∧ MOwn w.heap.size w' v' M ∧ Below w.heap.size w w' := by
  have := interrupted_spec v m w hm
  rw [h] at this
  refine this.mono ?_
  rintro e w' ⟨⟨v', rfl, hv'⟩, hb⟩
  exact ⟨v', rfl, hv', hb⟩
theorem interrupted_impl' {m M : Mc} {C : Int} (h : m.called = (M, C)) (v : Value) (w : World) (hm : MSl w v m) :
    Calls Tryz.prog 16 #[v] w fun e w' => ∃ v', e = .returned (.tuple #[v', .int .i64 C]) ∧ MOwn w.heap.size w' v' M ∧ Below w.heap.size w w' := by
  have := interrupted_impl v m w hm
  rw [h] at this
  refine this.mono ?_
  rintro e w' ⟨⟨v', rfl, hv'⟩, hb⟩
  exact ⟨v', rfl, hv', hb⟩
end Go.Proofs.YtocofjimkfffeaaGreatDoor.Mem
