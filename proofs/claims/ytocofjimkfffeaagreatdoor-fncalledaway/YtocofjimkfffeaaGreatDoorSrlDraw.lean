/-
  What the laws' drawing functions of chapter 5 answer: some port. What the laws' drawing functions of chapter 5 answer: any port.
-/
import Derived.Test.YtocofjimkfffeaaGreatDoorSrl
import Derived.Test.YtocofjimkfffeaaGreatDoorDraw
namespace Go.Proofs.YtocofjimkfffeaaGreatDoor.Srl
open Go.ChangeShapes Go.WideShapes Go.RowKit Base Num Slc Rw Reg Tmr Draw
set_option linter.unusedVariables false

def KSr (v : Value) (w : World) : Prop := ∃ s : Sr, v = s.val
theorem bears_sr (X : Nat → Prop) : Bears X KSr := fun _ _ _ h _ => h
/-- While a port is drawn: the cursor; the result's block and the variable's, in each of which a port stands. -/
structure D2 (p : Nat) (a : Option Addr) (len cap : Nat) (w0 : World) (b2 b3 : Nat) (w : World) : Prop where
  drawn : Drawn p a len cap w0 w
  r2 : ∃ s : Sr, Row w b2 #[.int .i64 s.d, .bool s.b, .bool s.l, .int .i64 s.n, .int .i64 s.x, .bool s.t] 28
  r3 : ∃ s : Sr, Row w b3 #[.int .i64 s.d, .bool s.b, .bool s.l, .int .i64 s.n, .int .i64 s.x, .bool s.t] 28
structure P2 (p : Nat) (a : Option Addr) (len : Nat) (w0 : World) (b2 b3 : Nat) : Prop where
  old : OldC p a len w0
  n2 : w0.heap.size ≤ b2
  n3 : w0.heap.size ≤ b3
  ne : b2 ≠ b3
section
variable {w0 w w' : World} {p b2 b3 : Nat} {a : Option Addr} {len cap : Nat}
theorem D2.drew (h : D2 p a len cap w0 b2 b3 w) : D2 p a len cap w0 b2 b3 w.drew := ⟨h.drawn.drewN 1, h.r2.imp fun _ r => r.drewN 1, h.r3.imp fun _ r => r.drewN 1⟩
theorem D2.below (h : D2 p a len cap w0 b2 b3 w) (hb : Below w.heap.size w w') : D2 p a len cap w0 b2 b3 w' := ⟨h.drawn.below hb, h.r2.imp fun _ r => r.below hb, h.r3.imp fun _ r => r.below hb⟩
theorem D2.onto (h : D2 p a len cap w0 b2 b3 w) (hP : P2 p a len w0 b2 b3) (ho : Onto p w w') (hd : Drawn p a len cap w0 w') : D2 p a len cap w0 b2 b3 w' := by
  have := hP.old.1
  have := hP.n2
  have := hP.n3
  exact ⟨hd, h.r2.imp fun _ r => r.onto ho (by omega), h.r3.imp fun _ r => r.onto ho (by omega)⟩
theorem row_set' {W : World} {b : Nat} (cs : Array Value) : Onto b W (W.setRow b cs) := ⟨rfl, rfl, rfl, by simp, fun k hk _ => setRow_other W _ k _ hk⟩
theorem D2.store3 (h : D2 p a len cap w0 b2 b3 w) (hP : P2 p a len w0 b2 b3) (s : Sr) : D2 p a len cap w0 b2 b3 (w.setRow b3 #[.int .i64 s.d, .bool s.b, .bool s.l, .int .i64 s.n, .int .i64 s.x, .bool s.t]) := by
  obtain ⟨u, r⟩ := h.r3
  exact ⟨drawn_other h.drawn (row_set' _) hP.n3 hP.old, h.r2.imp fun _ r => r.onto (row_set' _) hP.ne, ⟨s, Row.of (setRow_heap w _ _ _ _ _ r.row)⟩⟩
/-- A store into the variable that leaves a port there. -/
theorem D2.put3 (h : D2 p a len cap w0 b2 b3 w) (hP : P2 p a len w0 b2 b3) (ho : Onto b3 w w') (hr : ∃ s : Sr, Row w' b3 #[.int .i64 s.d, .bool s.b, .bool s.l, .int .i64 s.n, .int .i64 s.x, .bool s.t] 28) : D2 p a len cap w0 b2 b3 w' :=
  ⟨drawn_other h.drawn ho hP.n3 hP.old, h.r2.imp fun _ r => r.onto ho hP.ne, hr⟩
/-- The result is stored. -/
theorem D2.fin (h : D2 p a len cap w0 b2 b3 w) (hP : P2 p a len w0 b2 b3) (ho : Onto b2 w w') : Drawn p a len cap w0 w' := drawn_other h.drawn ho hP.n2 hP.old
end
theorem one_cell {w : World} {b i : Nat} (v : Value) : Onto b w (w.setCell ⟨b, i, none⟩ v) := (Onto.refl b w).setCell rfl v
set_option maxHeartbeats 4000000 in
set_option maxRecDepth 100000 in
theorem l5Draw_any {w0 : World} {p : Nat} {a : Option Addr} {len cap : Nat} (w : World) (h : Drawn p a len cap w0 w) :
    Calls Tryz.prog 127 #[.pointer (some ⟨p, 0, none⟩)] w fun e w' => ∃ s : Sr, e = .returned s.val ∧ Onto p w w' ∧ Drawn p a len cap w0 w' := by
  have hp := h.cur.lt
  have hold : OldC p a len w := ⟨hp, h.cur.code.lt⟩
  have HH : Hid (Onto p w0 w) := h.onto
  have hd0 := h.cur.drawn.alloc (.cells #[.int .i64 0, .bool false, .bool false, .int .i64 0, .int .i64 0, .bool false] 28)
  have r0 := Row.new w #[.int .i64 0, .bool false, .bool false, .int .i64 0, .int .i64 0, .bool false] 28
  clear h
  go_enter Tryz.func127, Tryz.ntmps127
  go_wp2_with fail
  go_at_call 28
  refine (below_any _ _ hd0 (by omega)).mono ?_
  rintro e w1 ⟨d, rfl, hd, ho1, hd1⟩
  replace r0 := r0.onto ho1 (by omega)
  have hlt1 := r0.lt
  have hP : P2 p a len w w.heap.size w1.heap.size := ⟨hold, Nat.le_refl _, by omega, by omega⟩
  have hS : D2 p a len cap w w.heap.size w1.heap.size (w1.alloc (.cells #[.int .i64 (d : Int), .bool false, .bool false, .int .i64 0, .int .i64 0, .bool false] 28)) := ⟨hd1.alloc _, ⟨Sr.nul, r0.alloc _⟩, ⟨⟨d, false, false, 0, 0, false⟩, Row.new _ _ _⟩⟩
  clear hd0 ho1 hd1 r0
  have fin : ∀ W : World, Drawn p a len cap w W → Onto p w W ∧ Drawn p a len cap w0 W := fun W h => ⟨h.onto, HH.out.trans h.onto, h.cur⟩
  go_wp2_with fail
  go_at_call 28
  refine (below_any _ _ hS.drawn (by omega)).mono ?_
  rintro e w2 ⟨q, rfl, hq, ho2, hd2⟩
  replace hS := hS.onto hP ho2 hd2
  clear ho2 hd2
  obtain rfl | rfl | rfl | rfl : q = 0 ∨ q = 1 ∨ q = 2 ∨ q = 3 := by omega
  · obtain ⟨s, r3⟩ := hS.r3
    obtain ⟨u, r2⟩ := hS.r2
    have c3 := r3.cell
    go_wp2_with (refine st_sr rfl rfl rfl rfl r2 rfl ?_; intro w3 r4 ho4 hs4)
    refine ret_row rfl rfl r4 und_sr rfl info_sr rfl ?_
    exact ⟨s, rfl, fin _ (hS.fin hP ho4)⟩
  · obtain ⟨s, r3⟩ := hS.r3
    have c3 := r3.cell
    go_wp2_with fail
    go_at_call 145
    refine (serialStart_spec s false 0 _).mono ?_
    rintro e w3 ⟨rfl, hb3⟩
    replace hS := hS.below hb3
    obtain ⟨s', r3'⟩ := hS.r3
    clear c3 r3 hb3
    rw [Sr.eta]
    generalize s.start false 0 = s2
    go_wp2_with (refine st_sr rfl rfl rfl rfl r3' rfl ?_; intro w4 r4 ho4 hs4)
    replace hS := hS.put3 hP ho4 ⟨_, r4⟩
    clear r3' r4 ho4 hs4
    go_at_call 28
    refine (below_any _ _ hS.drawn (by omega)).mono ?_
    rintro e w5 ⟨q, rfl, hq, ho5, hd5⟩
    replace hS := hS.onto hP ho5 hd5
    obtain ⟨s5, r5⟩ := hS.r3
    obtain ⟨u5, r6⟩ := hS.r2
    have c5 := r5.cell
    have f5 := r5.free
    go_wp2_with (refine st_sr rfl rfl rfl rfl (r6.setOther ⟨w1.heap.size, 3, none⟩ (.int .i64 (1 + (q : Int))) (by simp; omega)) rfl ?_; intro w6 r7 ho7 hs7)
    refine ret_row rfl rfl r7 und_sr rfl info_sr rfl ?_
    exact ⟨⟨s5.d, s5.b, s5.l, 1 + q, s5.x, s5.t⟩, rfl, fin _ (drawn_other (drawn_other hS.drawn (one_cell _) hP.n3 hP.old) ho7 hP.n2 hP.old)⟩
  · go_wp2
    refine region_by (by kernel_rfl) (by kernel_rfl) (fun W => D2 p a len cap w w.heap.size w1.heap.size W)
      (kinds [KSr, KIs (.pointer (some ⟨p, 0, none⟩)), KIdx 200, KSr, KAny]) (Rel fun _ => True) (by kernel_rfl) (kinds_mono ?mono) hS.drew ?step ?done
    case mono =>
      intro K hK
      simp only [List.mem_cons, List.not_mem_nil, or_false] at hK
      rcases hK with rfl | rfl | rfl | rfl | rfl
      all_goals first | exact bears_is _ _ | exact bears_idx _ _ | exact bears_sr _ | exact bears_any _
    case step =>
      intro L ix o A W hi hI hL hd
      have hin : ix < 5 := by
        by_cases hl : ix < 5
        · exact hl
        · simp [hl] at hi
      rcases ix with _ | ix
      · obtain rfl := (Option.some.inj hi).symm
        have e : A.eval (.tmp 3) = .pointer (some ⟨w1.heap.size, 0, none⟩) := hI.old 3 (by kernel_rfl)
        obtain ⟨s, r⟩ := hI.g.r3
        exact at_op rfl rfl (wp_load_row _ _ rfl _ e _ _ _ _ r.row und_sr rfl info_sr ⟨_, rfl, ⟨s, rfl⟩, hI.g, Rel.refl _ _⟩)
      rcases ix with _ | ix
      · obtain rfl := (Option.some.inj hi).symm
        exact at_op rfl rfl (move_op rfl ⟨_, rfl, hI.old 0 (by kernel_rfl), hI.g, Rel.refl _ _⟩)
      rcases ix with _ | ix
      · obtain rfl := (Option.some.inj hi).symm
        have e : A.eval (.tmp 19) = .pointer (some ⟨p, 0, none⟩) := hI.get hd 1 19 rfl (by kernel_rfl)
        refine at_op rfl rfl (call_op rfl Tryz.func28 (by kernel_rfl) (by kernel_rfl) ?_)
        simp only [List.map_cons, List.map_nil, e]
        refine (below_any 200 W hI.g.drawn (by omega)).mono ?_
        rintro e w4 ⟨r, rfl, hr, ho4, hd4⟩
        exact ⟨_, rfl, _, rfl, ⟨r, rfl, hr⟩, hI.g.onto hP ho4 hd4, Rel.onto ho4 trivial⟩
      rcases ix with _ | ix
      · obtain rfl := (Option.some.inj hi).symm
        obtain ⟨s, e1⟩ : KSr (A.eval (.tmp 18)) W := hI.get hd 0 18 rfl (by kernel_rfl)
        obtain ⟨r, e2, hr⟩ : KIdx 200 (A.eval (.tmp 20)) W := hI.get hd 2 20 rfl (by kernel_rfl)
        refine at_op rfl rfl (call_op rfl Tryz.func145 (by kernel_rfl) (by kernel_rfl) ?_)
        simp only [List.map_cons, List.map_nil, e1, e2]
        refine (serialStart_spec s true r W).mono ?_
        rintro e w4 ⟨rfl, hb4⟩
        exact ⟨_, rfl, _, rfl, ⟨_, rfl⟩, hI.g.below hb4, Rel.below hb4⟩
      rcases ix with _ | ix
      · obtain rfl := (Option.some.inj hi).symm
        obtain ⟨s, e1⟩ : KSr (A.eval (.tmp 21)) W := hI.get hd 3 21 rfl (by kernel_rfl)
        have e2 : A.eval (.tmp 3) = .pointer (some ⟨w1.heap.size, 0, none⟩) := hI.old 3 (by kernel_rfl)
        obtain ⟨u, hr⟩ := hI.g.r3
        exact at_op rfl rfl (wp_store_row _ _ _ rfl _ _ e2 e1 _ _ hr.row info_sr rfl (by simp [Value.oneCell']) ⟨_, rfl, trivial, hI.g.store3 hP s, by simp, fun k hk => absurd trivial hk⟩)
      omega
    case done =>
      intro A W hI
      have e0 : A.tmps.getD 0 undef = .pointer (some ⟨p, 0, none⟩) := hI.old 0 (by kernel_rfl)
      have e2 : A.tmps.getD 2 undef = .pointer (some ⟨w.heap.size, 0, none⟩) := hI.old 2 (by kernel_rfl)
      have e3 : A.tmps.getD 3 undef = .pointer (some ⟨w1.heap.size, 0, none⟩) := hI.old 3 (by kernel_rfl)
      have hA := frame_lit A 35 hI.size
      have hg := hI.g
      have hde : A.defers = [] := hI.defers
      rw [hde, show List.range 35 = [0, 1, 2, 3, 4, 5, 6, 7, 8, 9, 10, 11, 12, 13, 14, 15, 16, 17, 18, 19, 20, 21, 22, 23, 24, 25, 26, 27, 28, 29, 30, 31, 32, 33, 34] from rfl] at hA
      simp only [List.map_cons, List.map_nil, e0, e2, e3] at hA
      rw [hA]
      clear hA e0 e2 e3 hI hde hS
      have hS := hg
      clear hg
      go_wp2_with fail
      go_at_call 28
      refine (below_any _ _ hS.drawn (by omega)).mono ?_
      rintro e w5 ⟨q, rfl, hq, ho5, hd5⟩
      replace hS := hS.onto hP ho5 hd5
      obtain ⟨s5, r5⟩ := hS.r3
      obtain ⟨u5, r6⟩ := hS.r2
      have c5 := r5.cell
      have f5 := r5.free
      go_wp2_with (refine st_sr rfl rfl rfl rfl (r6.setOther ⟨w1.heap.size, 3, none⟩ (.int .i64 (1 + (q : Int))) (by simp; omega)) rfl ?_; intro w6 r7 ho7 hs7)
      refine ret_row rfl rfl r7 und_sr rfl info_sr rfl ?_
      exact ⟨⟨s5.d, s5.b, s5.l, 1 + q, s5.x, s5.t⟩, rfl, fin _ (drawn_other (drawn_other hS.drawn (one_cell _) hP.n3 hP.old) ho7 hP.n2 hP.old)⟩
  · go_wp2
    refine region_by (by kernel_rfl) (by kernel_rfl) (fun W => D2 p a len cap w w.heap.size w1.heap.size W)
      (kinds [KSr, KIs (.pointer (some ⟨p, 0, none⟩)), KIdx 200, KSr, KAny]) (Rel fun _ => True) (by kernel_rfl) (kinds_mono ?mono) hS.drew ?step ?done
    case mono =>
      intro K hK
      simp only [List.mem_cons, List.not_mem_nil, or_false] at hK
      rcases hK with rfl | rfl | rfl | rfl | rfl
      all_goals first | exact bears_is _ _ | exact bears_idx _ _ | exact bears_sr _ | exact bears_any _
    case step =>
      intro L ix o A W hi hI hL hd
      have hin : ix < 5 := by
        by_cases hl : ix < 5
        · exact hl
        · simp [hl] at hi
      rcases ix with _ | ix
      · obtain rfl := (Option.some.inj hi).symm
        have e : A.eval (.tmp 3) = .pointer (some ⟨w1.heap.size, 0, none⟩) := hI.old 3 (by kernel_rfl)
        obtain ⟨s, r⟩ := hI.g.r3
        exact at_op rfl rfl (wp_load_row _ _ rfl _ e _ _ _ _ r.row und_sr rfl info_sr ⟨_, rfl, ⟨s, rfl⟩, hI.g, Rel.refl _ _⟩)
      rcases ix with _ | ix
      · obtain rfl := (Option.some.inj hi).symm
        exact at_op rfl rfl (move_op rfl ⟨_, rfl, hI.old 0 (by kernel_rfl), hI.g, Rel.refl _ _⟩)
      rcases ix with _ | ix
      · obtain rfl := (Option.some.inj hi).symm
        have e : A.eval (.tmp 25) = .pointer (some ⟨p, 0, none⟩) := hI.get hd 1 25 rfl (by kernel_rfl)
        refine at_op rfl rfl (call_op rfl Tryz.func28 (by kernel_rfl) (by kernel_rfl) ?_)
        simp only [List.map_cons, List.map_nil, e]
        refine (below_any 200 W hI.g.drawn (by omega)).mono ?_
        rintro e w4 ⟨r, rfl, hr, ho4, hd4⟩
        exact ⟨_, rfl, _, rfl, ⟨r, rfl, hr⟩, hI.g.onto hP ho4 hd4, Rel.onto ho4 trivial⟩
      rcases ix with _ | ix
      · obtain rfl := (Option.some.inj hi).symm
        obtain ⟨s, e1⟩ : KSr (A.eval (.tmp 24)) W := hI.get hd 0 24 rfl (by kernel_rfl)
        obtain ⟨r, e2, hr⟩ : KIdx 200 (A.eval (.tmp 26)) W := hI.get hd 2 26 rfl (by kernel_rfl)
        refine at_op rfl rfl (call_op rfl Tryz.func145 (by kernel_rfl) (by kernel_rfl) ?_)
        simp only [List.map_cons, List.map_nil, e1, e2]
        refine (serialStart_spec s true r W).mono ?_
        rintro e w4 ⟨rfl, hb4⟩
        exact ⟨_, rfl, _, rfl, ⟨_, rfl⟩, hI.g.below hb4, Rel.below hb4⟩
      rcases ix with _ | ix
      · obtain rfl := (Option.some.inj hi).symm
        obtain ⟨s, e1⟩ : KSr (A.eval (.tmp 27)) W := hI.get hd 3 27 rfl (by kernel_rfl)
        have e2 : A.eval (.tmp 3) = .pointer (some ⟨w1.heap.size, 0, none⟩) := hI.old 3 (by kernel_rfl)
        obtain ⟨u, hr⟩ := hI.g.r3
        exact at_op rfl rfl (wp_store_row _ _ _ rfl _ _ e2 e1 _ _ hr.row info_sr rfl (by simp [Value.oneCell']) ⟨_, rfl, trivial, hI.g.store3 hP s, by simp, fun k hk => absurd trivial hk⟩)
      omega
    case done =>
      intro A W hI
      have e0 : A.tmps.getD 0 undef = .pointer (some ⟨p, 0, none⟩) := hI.old 0 (by kernel_rfl)
      have e2 : A.tmps.getD 2 undef = .pointer (some ⟨w.heap.size, 0, none⟩) := hI.old 2 (by kernel_rfl)
      have e3 : A.tmps.getD 3 undef = .pointer (some ⟨w1.heap.size, 0, none⟩) := hI.old 3 (by kernel_rfl)
      have hA := frame_lit A 35 hI.size
      have hg := hI.g
      have hde : A.defers = [] := hI.defers
      rw [hde, show List.range 35 = [0, 1, 2, 3, 4, 5, 6, 7, 8, 9, 10, 11, 12, 13, 14, 15, 16, 17, 18, 19, 20, 21, 22, 23, 24, 25, 26, 27, 28, 29, 30, 31, 32, 33, 34] from rfl] at hA
      simp only [List.map_cons, List.map_nil, e0, e2, e3] at hA
      rw [hA]
      clear hA e0 e2 e3 hI hde hS
      have hS := hg
      clear hg
      obtain ⟨s3, r3⟩ := hS.r3
      have c3 := r3.cell
      have f3 := r3.free
      replace hS := hS.put3 hP (one_cell (i := 5) (.bool true)) ⟨⟨s3.d, s3.b, s3.l, s3.n, s3.x, true⟩, by simpa using r3.set 5 (.bool true)⟩
      replace hS := hS.put3 hP (one_cell (i := 4) (.int .i64 0)) ⟨⟨s3.d, s3.b, s3.l, s3.n, 0, true⟩, by simpa using (r3.set 5 (.bool true)).set 4 (.int .i64 0)⟩
      go_wp2_with fail
      go_at_call 28
      refine (below_any _ _ hS.drawn (by omega)).mono ?_
      rintro e w5 ⟨q, rfl, hq, ho5, hd5⟩
      replace hS := hS.onto hP ho5 hd5
      obtain ⟨s5, r5⟩ := hS.r3
      obtain ⟨u5, r6⟩ := hS.r2
      have c5 := r5.cell
      have f5 := r5.free
      go_wp2_with (refine st_sr rfl rfl rfl rfl (r6.setOther ⟨w1.heap.size, 3, none⟩ (.int .i64 (1 + (q : Int))) (by simp; omega)) rfl ?_; intro w6 r7 ho7 hs7)
      refine ret_row rfl rfl r7 und_sr rfl info_sr rfl ?_
      exact ⟨⟨s5.d, s5.b, s5.l, 1 + q, s5.x, s5.t⟩, rfl, fin _ (drawn_other (drawn_other hS.drawn (one_cell _) hP.n3 hP.old) ho7 hP.n2 hP.old)⟩
end Go.Proofs.YtocofjimkfffeaaGreatDoor.Srl
namespace Go.Proofs.YtocofjimkfffeaaGreatDoor.Srl
open Go.ChangeShapes Go.WideShapes Go.RowKit Base Num Slc Rw Reg Tmr Draw
set_option linter.unusedVariables false

set_option maxHeartbeats 4000000 in
theorem l5DrawAny_any {w0 : World} {p : Nat} {a : Option Addr} {len cap : Nat} (w : World) (h : Drawn p a len cap w0 w) :
    Calls Tryz.prog 63 #[.pointer (some ⟨p, 0, none⟩)] w fun e w' => ∃ s : Sr, e = .returned s.val ∧ Onto p w w' ∧ Drawn p a len cap w0 w' := by
  have hp := h.cur.lt
  have hold : OldC p a len w := ⟨hp, h.cur.code.lt⟩
  have HH : Hid (Onto p w0 w) := h.onto
  have hd0 := h.cur.drawn.alloc (.cells #[.int .i64 0, .bool false, .bool false, .int .i64 0, .int .i64 0, .bool false] 28)
  have r0 := Row.new w #[.int .i64 0, .bool false, .bool false, .int .i64 0, .int .i64 0, .bool false] 28
  clear h
  go_enter Tryz.func63, Tryz.ntmps63
  go_wp2_with fail
  go_at_call 127
  refine (l5Draw_any _ hd0).mono ?_
  rintro e w1 ⟨t, rfl, ho1, hd1⟩
  replace r0 := r0.onto ho1 (by omega)
  have hlt1 := r0.lt
  have hP : P2 p a len w w.heap.size w1.heap.size := ⟨hold, Nat.le_refl _, by omega, by omega⟩
  have hS : D2 p a len cap w w.heap.size w1.heap.size (w1.alloc (.cells #[.int .i64 t.d, .bool t.b, .bool t.l, .int .i64 t.n, .int .i64 t.x, .bool t.t] 28)) := ⟨hd1.alloc _, ⟨Sr.nul, r0.alloc _⟩, ⟨t, Row.new _ _ _⟩⟩
  have r3 := Row.new w1 #[.int .i64 t.d, .bool t.b, .bool t.l, .int .i64 t.n, .int .i64 t.x, .bool t.t] 28
  have hp1 : w1.heap.size ≠ p := by omega
  clear hd0 ho1 hd1 r0
  have fin : ∀ W : World, Drawn p a len cap w W → Onto p w W ∧ Drawn p a len cap w0 W := fun W h => ⟨h.onto, HH.out.trans h.onto, h.cur⟩
  rw [Sr.eta]
  go_wp2_with fail
  go_at_call 27
  refine (once_any _ _ hS.drawn (by omega)).mono ?_
  rintro e w2 ⟨q, rfl, ho2, hd2⟩
  replace hS := hS.onto hP ho2 hd2
  replace r3 := r3.onto ho2 (by omega)
  clear ho2 hd2
  cases q
  · obtain ⟨u, r2⟩ := hS.r2
    have c3 := r3.cell
    go_wp2_with (refine st_sr rfl rfl rfl rfl r2 rfl ?_; intro w3 r4 ho4 hs4)
    refine ret_row rfl rfl r4 und_sr rfl info_sr rfl ?_
    exact ⟨t, rfl, fin _ (hS.fin hP ho4)⟩
  go_wp2_with fail
  go_at_call 28
  refine (below_any _ _ hS.drawn (by omega)).mono ?_
  rintro e w3 ⟨r, rfl, hr, ho3, hd3⟩
  replace hS := hS.onto hP ho3 hd3
  replace r3 := r3.onto ho3 (by omega)
  clear ho3 hd3
  obtain rfl | rfl | rfl | rfl | rfl | rfl : r = 0 ∨ r = 1 ∨ r = 2 ∨ r = 3 ∨ r = 4 ∨ r = 5 := by omega
  · go_wp2_with fail
    go_at_call 60
    refine (num_any _ _ hS.drawn (by omega) (by omega)).mono ?_
    rintro e w4 ⟨x, rfl, hx, ho4, hd4⟩
    replace hS := hS.onto hP ho4 hd4
    replace r3 := r3.onto ho4 (by omega)
    obtain ⟨u, r2⟩ := hS.r2
    have c3 := r3.cell
    have f3 := r3.free
    go_wp2_with (refine st_sr rfl rfl rfl rfl (r2.setOther ⟨w1.heap.size, 0, none⟩ (.int .i64 x) (by simp; omega)) rfl ?_; intro w5 r5 ho5 hs5)
    refine ret_row rfl rfl r5 und_sr rfl info_sr rfl ?_
    exact ⟨⟨x, t.b, t.l, t.n, t.x, t.t⟩, rfl, fin _ (drawn_other (drawn_other hS.drawn (one_cell _) hP.n3 hP.old) ho5 hP.n2 hP.old)⟩
  · obtain ⟨u, r2⟩ := hS.r2
    have c3 := r3.cell
    have f3 := r3.free
    go_wp2_with (refine st_sr rfl rfl rfl rfl (r2.setOther ⟨w1.heap.size, 1, none⟩ (.bool (!t.b)) (by simp; omega)) rfl ?_; intro w5 r5 ho5 hs5)
    refine ret_row rfl rfl r5 und_sr rfl info_sr rfl ?_
    exact ⟨⟨t.d, !t.b, t.l, t.n, t.x, t.t⟩, rfl, fin _ (drawn_other (drawn_other hS.drawn (one_cell _) hP.n3 hP.old) ho5 hP.n2 hP.old)⟩
  · obtain ⟨u, r2⟩ := hS.r2
    have c3 := r3.cell
    have f3 := r3.free
    go_wp2_with (refine st_sr rfl rfl rfl rfl (r2.setOther ⟨w1.heap.size, 2, none⟩ (.bool (!t.l)) (by simp; omega)) rfl ?_; intro w5 r5 ho5 hs5)
    refine ret_row rfl rfl r5 und_sr rfl info_sr rfl ?_
    exact ⟨⟨t.d, t.b, !t.l, t.n, t.x, t.t⟩, rfl, fin _ (drawn_other (drawn_other hS.drawn (one_cell _) hP.n3 hP.old) ho5 hP.n2 hP.old)⟩
  · go_wp2_with fail
    go_at_call 61
    refine (from_any _ _ _ hS.drawn (by omega) (by omega) (by omega)).mono ?_
    rintro e w4 ⟨x, rfl, hx, ho4, hd4⟩
    replace hS := hS.onto hP ho4 hd4
    replace r3 := r3.onto ho4 (by omega)
    obtain ⟨u, r2⟩ := hS.r2
    have c3 := r3.cell
    have f3 := r3.free
    go_wp2_with (refine st_sr rfl rfl rfl rfl (r2.setOther ⟨w1.heap.size, 3, none⟩ (.int .i64 x) (by simp; omega)) rfl ?_; intro w5 r5 ho5 hs5)
    refine ret_row rfl rfl r5 und_sr rfl info_sr rfl ?_
    exact ⟨⟨t.d, t.b, t.l, x, t.x, t.t⟩, rfl, fin _ (drawn_other (drawn_other hS.drawn (one_cell _) hP.n3 hP.old) ho5 hP.n2 hP.old)⟩
  · go_wp2_with fail
    go_at_call 60
    refine (num_any _ _ hS.drawn (by omega) (by omega)).mono ?_
    rintro e w4 ⟨x, rfl, hx, ho4, hd4⟩
    replace hS := hS.onto hP ho4 hd4
    replace r3 := r3.onto ho4 (by omega)
    obtain ⟨u, r2⟩ := hS.r2
    have c3 := r3.cell
    have f3 := r3.free
    go_wp2_with (refine st_sr rfl rfl rfl rfl (r2.setOther ⟨w1.heap.size, 4, none⟩ (.int .i64 x) (by simp; omega)) rfl ?_; intro w5 r5 ho5 hs5)
    refine ret_row rfl rfl r5 und_sr rfl info_sr rfl ?_
    exact ⟨⟨t.d, t.b, t.l, t.n, x, t.t⟩, rfl, fin _ (drawn_other (drawn_other hS.drawn (one_cell _) hP.n3 hP.old) ho5 hP.n2 hP.old)⟩
  · obtain ⟨u, r2⟩ := hS.r2
    have c3 := r3.cell
    have f3 := r3.free
    go_wp2_with (refine st_sr rfl rfl rfl rfl (r2.setOther ⟨w1.heap.size, 5, none⟩ (.bool (!t.t)) (by simp; omega)) rfl ?_; intro w5 r5 ho5 hs5)
    refine ret_row rfl rfl r5 und_sr rfl info_sr rfl ?_
    exact ⟨⟨t.d, t.b, t.l, t.n, t.x, !t.t⟩, rfl, fin _ (drawn_other (drawn_other hS.drawn (one_cell _) hP.n3 hP.old) ho5 hP.n2 hP.old)⟩
end Go.Proofs.YtocofjimkfffeaaGreatDoor.Srl
