/-
  What the laws' drawing functions of chapter 4 answer: some timer, some number.
-/
import Derived.Test.YtocofjimkfffeaaGreatDoorTmr
import Derived.Test.YtocofjimkfffeaaGreatDoorDraw
import Derived.Test.YtocofjimkfffeaaGreatDoorReg
namespace Go.Proofs.YtocofjimkfffeaaGreatDoor.Tmr
open Go.ChangeShapes Go.WideShapes Go.RowKit Base Num Slc Rw Draw Reg
set_option linter.unusedVariables false

/-- While a timer is drawn: the cursor, and the result's block, in which four numbers stand. -/
structure Dst (p : Nat) (a : Option Addr) (len cap : Nat) (w0 : World) (b : Nat) (w : World) : Prop where
  drawn : Drawn p a len cap w0 w
  row : ∃ t : Tm, Row w b #[.int .i64 t.c, .int .i64 t.v, .int .i64 t.s, .int .i64 t.m] 26
  ne : p < b
  new : w0.heap.size ≤ b
section
variable {w0 w w' : World} {p b : Nat} {a : Option Addr} {len cap : Nat}
theorem Dst.alloc (h : Dst p a len cap w0 b w) (o : Obj) : Dst p a len cap w0 b (w.alloc o) := ⟨h.drawn.alloc o, h.row.imp fun t r => r.alloc o, h.ne, h.new⟩
theorem Dst.drew (h : Dst p a len cap w0 b w) : Dst p a len cap w0 b w.drew := ⟨h.drawn.drewN 1, h.row.imp fun t r => r.drewN 1, h.ne, h.new⟩
theorem Dst.drewN (h : Dst p a len cap w0 b w) (n : Nat) : Dst p a len cap w0 b (w.drewN n) := ⟨h.drawn.drewN n, h.row.imp fun t r => r.drewN n, h.ne, h.new⟩
theorem Dst.onto (h : Dst p a len cap w0 b w) (ho : Onto p w w') (hd : Drawn p a len cap w0 w') : Dst p a len cap w0 b w' := ⟨hd, h.row.imp fun t r => r.onto ho (by have := h.ne; omega), h.ne, h.new⟩
theorem Dst.set4 (h : Dst p a len cap w0 b w) (ho : OldC p a len w0) (c v s m : Int) :
    Dst p a len cap w0 b ((((w.setCell ⟨b, 0, none⟩ (.int .i64 c)).setCell ⟨b, 1, none⟩ (.int .i64 v)).setCell ⟨b, 2, none⟩ (.int .i64 s)).setCell ⟨b, 3, none⟩ (.int .i64 m)) := by
  obtain ⟨hd, ⟨t, r⟩, ne, new⟩ := h
  refine ⟨drawn_new (drawn_new (drawn_new (drawn_new hd ho.1 ho.2 new _) ho.1 ho.2 new _) ho.1 ho.2 new _) ho.1 ho.2 new _, ⟨⟨c, v, s, m⟩, ?_⟩, ne, new⟩
  simpa using (((r.set 0 (.int .i64 c)).set 1 (.int .i64 v)).set 2 (.int .i64 s)).set 3 (.int .i64 m)
theorem Dst.ret (h : Dst p a len cap w0 b w) {fn : Func} {R : Ending → World → Prop} {A : Act} {q : Tmp} (hr : fn.results = #[.cell q 26]) (hp : A.tmps.getD q undef = .pointer (some ⟨b, 0, none⟩)) (hde : A.defers = [])
    (hR : ∀ t : Tm, R (.returned t.val) w) : bodyPost Tryz.prog fn R .ret A w := by
  obtain ⟨t, r⟩ := h.row
  exact ret_row hr hp r und_tm rfl info_tm hde (hR t)
end


def KTm (v : Value) (w : World) : Prop := ∃ t : Tm, v = t.val
theorem bears_tm (X : Nat → Prop) : Bears X KTm := fun _ _ _ h _ => h
section
variable {w0 : World} {p b : Nat} {a : Option Addr} {len cap : Nat}
/-- A draw within a region. -/
theorem below_op {Q : Exit → Act → World → Prop} {X : Nat → Prop} (hX : X p) {A : Act} {w : World} {o : Oper} {x : Operand} {n : Int} {tys : Array TypeId} (hG : Dst p a len cap w0 b w)
    (ho : o.op = .call { callee := .value (.func 28), args := [x, .const (.int .i64 n)].toArray, argTypes := tys }) (hx : A.eval x = .pointer (some ⟨p, 0, none⟩)) (hn : 0 < n) (T : Value → World → Prop) (hT : ∀ v w', KIdx n v w' → T v w') :
    o.wp Tryz.prog A w (fun a' w' => ∃ v, a' = A.put o.dst v ∧ T v w' ∧ Dst p a len cap w0 b w' ∧ Rel X w w') Q := by
  refine call_op ho Tryz.func28 (by kernel_rfl) (by kernel_rfl) ?_
  show Calls Tryz.prog 28 #[A.eval x, .int .i64 n] w _
  rw [hx]
  refine (below_any n w hG.drawn hn).mono ?_
  rintro e w1 ⟨r, rfl, hr, ho, hd⟩
  exact ⟨_, rfl, _, rfl, hT _ _ ⟨r, rfl, hr⟩, hG.onto ho hd, Rel.onto ho hX⟩
end
theorem info64b : (Tryz.prog.info? 2).map (·.size) = some 1 := by kernel_rfl
set_option maxHeartbeats 4000000 in
set_option maxRecDepth 100000 in
theorem l4Draw_any {w0 : World} {p : Nat} {a : Option Addr} {len cap : Nat} (w : World) (h : Drawn p a len cap w0 w) :
    Calls Tryz.prog 126 #[.pointer (some ⟨p, 0, none⟩)] w fun e w' => ∃ t : Tm, e = .returned t.val ∧ Onto p w w' ∧ Drawn p a len cap w0 w' := by
  have hp := h.cur.lt
  have hold : OldC p a len w := ⟨hp, h.cur.code.lt⟩
  have HH : Hid (Onto p w0 w) := h.onto
  have hS : Dst p a len cap w w.heap.size (w.alloc (.cells #[.int .i64 0, .int .i64 0, .int .i64 0, .int .i64 0] 26)) := ⟨h.cur.drawn.alloc _, ⟨⟨0, 0, 0, 0⟩, Row.new _ _ _⟩, hp, Nat.le_refl _⟩
  clear h
  go_enter Tryz.func126, Tryz.ntmps126
  go_wp2
  refine region_by (by kernel_rfl) (by kernel_rfl) (fun w' => Dst p a len cap w w.heap.size w')
    (kinds [KIs (.pointer (some ⟨p, 0, none⟩)), KIdx 500, KIs (.pointer (some ⟨p, 0, none⟩)), KIdx 256, KLit (fun k => k = p ∨ k = w.heap.size) 4, KIs (.pointer (some ⟨p, 0, none⟩)), KIdx 4, KAt (fun k => k = p ∨ k = w.heap.size) 4, KInt, KIs (.pointer (some ⟨p, 0, none⟩)), KIdx 256, KLit (fun k => k = p ∨ k = w.heap.size) 3, KIs (.pointer (some ⟨p, 0, none⟩)), KIdx 3, KAt (fun k => k = p ∨ k = w.heap.size) 3, KInt, KIs (.pointer (some ⟨p, 0, none⟩)), KIdx 8, KTm, KAny])
    (Rel fun k => k = p ∨ k = w.heap.size) (by kernel_rfl) (kinds_mono ?mono) hS.drew ?step ?done
  case mono =>
    intro K hK
    simp only [List.mem_cons, List.not_mem_nil, or_false] at hK
    rcases hK with rfl | rfl | rfl | rfl | rfl | rfl | rfl | rfl | rfl | rfl | rfl | rfl | rfl | rfl | rfl | rfl | rfl | rfl | rfl | rfl
    all_goals first | exact bears_is _ _ | exact bears_idx _ _ | exact bears_lit _ _ | exact bears_at _ _ | exact bears_int _ | exact bears_tm _ | exact bears_any _
  case step =>
    intro L i o A W hi hI hL hd
    have hi20 : i < 20 := by
      by_cases hl : i < 20
      · exact hl
      · simp [hl] at hi
    rcases i with _ | i
    · obtain rfl := (Option.some.inj hi).symm
      exact at_op rfl rfl (move_op rfl ⟨_, rfl, hI.old 0 (by kernel_rfl), hI.g, Rel.refl _ _⟩)
    rcases i with _ | i
    · obtain rfl := (Option.some.inj hi).symm
      have e : A.eval (.tmp 3) = .pointer (some ⟨p, 0, none⟩) := hI.get hd 0 3 rfl (by kernel_rfl)
      exact at_op rfl rfl (below_op (.inl rfl) hI.g rfl e (by omega) _ fun _ _ h => h)
    rcases i with _ | i
    · obtain rfl := (Option.some.inj hi).symm
      exact at_op rfl rfl (move_op rfl ⟨_, rfl, hI.old 0 (by kernel_rfl), hI.g, Rel.refl _ _⟩)
    rcases i with _ | i
    · obtain rfl := (Option.some.inj hi).symm
      have e : A.eval (.tmp 5) = .pointer (some ⟨p, 0, none⟩) := hI.get hd 2 5 rfl (by kernel_rfl)
      exact at_op rfl rfl (below_op (.inl rfl) hI.g rfl e (by omega) _ fun _ _ h => h)
    rcases i with _ | i
    · obtain rfl := (Option.some.inj hi).symm
      obtain ⟨r, e, hr⟩ : KIdx 256 (A.eval (.tmp 6)) W := hI.get hd 3 6 rfl (by kernel_rfl)
      have hl := hI.g.drawn.cur.lt
      have hlr : w.heap.size < W.heap.size := by obtain ⟨t, r⟩ := hI.g.row; exact r.lt
      exact at_op rfl rfl (lit_op (vals := [(0, .int .i64 0), (1, .int .i64 250), (2, .int .i64 255), (3, .int .i64 (r : Int))]) (cs := #[.int .i64 0, .int .i64 250, .int .i64 255, .int .i64 (r : Int)]) rfl und64 info64 (by rw [← e]; rfl) (by omega) (by omega) (by kernel_rfl)
        ⟨_, rfl, ⟨_, rfl, LitAt.new (by omega) #[.int .i64 0, .int .i64 250, .int .i64 255, .int .i64 (r : Int)] _ (by simp)⟩, hI.g.alloc _, Rel.alloc _ _ _⟩)
    rcases i with _ | i
    · obtain rfl := (Option.some.inj hi).symm
      exact at_op rfl rfl (move_op rfl ⟨_, rfl, hI.old 0 (by kernel_rfl), hI.g, Rel.refl _ _⟩)
    rcases i with _ | i
    · obtain rfl := (Option.some.inj hi).symm
      have e : A.eval (.tmp 8) = .pointer (some ⟨p, 0, none⟩) := hI.get hd 5 8 rfl (by kernel_rfl)
      exact at_op rfl rfl (below_op (.inl rfl) hI.g rfl e (by omega) _ fun _ _ h => h)
    rcases i with _ | i
    · obtain rfl := (Option.some.inj hi).symm
      obtain ⟨b, e1, hb⟩ : KLit (fun k => k = p ∨ k = w.heap.size) 4 (A.eval (.tmp 7)) W := hI.get hd 4 7 rfl (by kernel_rfl)
      obtain ⟨r, e2, hr⟩ : KIdx 4 (A.eval (.tmp 9)) W := hI.get hd 6 9 rfl (by kernel_rfl)
      exact at_op rfl rfl (index_op rfl und64 info64b e1 e2 (by omega) ⟨_, rfl, ⟨b, r, rfl, by omega, hb⟩, hI.g, Rel.refl _ _⟩)
    rcases i with _ | i
    · obtain rfl := (Option.some.inj hi).symm
      obtain ⟨b, r, e, hr, hb⟩ : KAt (fun k => k = p ∨ k = w.heap.size) 4 (A.eval (.tmp 10)) W := hI.get hd 7 10 rfl (by kernel_rfl)
      obtain ⟨z, hz⟩ := hb.2.2 r hr
      exact at_op rfl rfl (load_op rfl Tryz.underlying2 e hz ⟨_, rfl, ⟨z, rfl⟩, hI.g, Rel.refl _ _⟩)
    rcases i with _ | i
    · obtain rfl := (Option.some.inj hi).symm
      exact at_op rfl rfl (move_op rfl ⟨_, rfl, hI.old 0 (by kernel_rfl), hI.g, Rel.refl _ _⟩)
    rcases i with _ | i
    · obtain rfl := (Option.some.inj hi).symm
      have e : A.eval (.tmp 12) = .pointer (some ⟨p, 0, none⟩) := hI.get hd 9 12 rfl (by kernel_rfl)
      exact at_op rfl rfl (below_op (.inl rfl) hI.g rfl e (by omega) _ fun _ _ h => h)
    rcases i with _ | i
    · obtain rfl := (Option.some.inj hi).symm
      obtain ⟨r, e, hr⟩ : KIdx 256 (A.eval (.tmp 13)) W := hI.get hd 10 13 rfl (by kernel_rfl)
      have hl := hI.g.drawn.cur.lt
      have hlr : w.heap.size < W.heap.size := by obtain ⟨t, r⟩ := hI.g.row; exact r.lt
      exact at_op rfl rfl (lit_op (vals := [(0, .int .i64 0), (1, .int .i64 255), (2, .int .i64 (r : Int))]) (cs := #[.int .i64 0, .int .i64 255, .int .i64 (r : Int)]) rfl und64 info64 (by rw [← e]; rfl) (by omega) (by omega) (by kernel_rfl)
        ⟨_, rfl, ⟨_, rfl, LitAt.new (by omega) #[.int .i64 0, .int .i64 255, .int .i64 (r : Int)] _ (by simp)⟩, hI.g.alloc _, Rel.alloc _ _ _⟩)
    rcases i with _ | i
    · obtain rfl := (Option.some.inj hi).symm
      exact at_op rfl rfl (move_op rfl ⟨_, rfl, hI.old 0 (by kernel_rfl), hI.g, Rel.refl _ _⟩)
    rcases i with _ | i
    · obtain rfl := (Option.some.inj hi).symm
      have e : A.eval (.tmp 15) = .pointer (some ⟨p, 0, none⟩) := hI.get hd 12 15 rfl (by kernel_rfl)
      exact at_op rfl rfl (below_op (.inl rfl) hI.g rfl e (by omega) _ fun _ _ h => h)
    rcases i with _ | i
    · obtain rfl := (Option.some.inj hi).symm
      obtain ⟨b, e1, hb⟩ : KLit (fun k => k = p ∨ k = w.heap.size) 3 (A.eval (.tmp 14)) W := hI.get hd 11 14 rfl (by kernel_rfl)
      obtain ⟨r, e2, hr⟩ : KIdx 3 (A.eval (.tmp 16)) W := hI.get hd 13 16 rfl (by kernel_rfl)
      exact at_op rfl rfl (index_op rfl und64 info64b e1 e2 (by omega) ⟨_, rfl, ⟨b, r, rfl, by omega, hb⟩, hI.g, Rel.refl _ _⟩)
    rcases i with _ | i
    · obtain rfl := (Option.some.inj hi).symm
      obtain ⟨b, r, e, hr, hb⟩ : KAt (fun k => k = p ∨ k = w.heap.size) 3 (A.eval (.tmp 17)) W := hI.get hd 14 17 rfl (by kernel_rfl)
      obtain ⟨z, hz⟩ := hb.2.2 r hr
      exact at_op rfl rfl (load_op rfl Tryz.underlying2 e hz ⟨_, rfl, ⟨z, rfl⟩, hI.g, Rel.refl _ _⟩)
    rcases i with _ | i
    · obtain rfl := (Option.some.inj hi).symm
      exact at_op rfl rfl (move_op rfl ⟨_, rfl, hI.old 0 (by kernel_rfl), hI.g, Rel.refl _ _⟩)
    rcases i with _ | i
    · obtain rfl := (Option.some.inj hi).symm
      have e : A.eval (.tmp 19) = .pointer (some ⟨p, 0, none⟩) := hI.get hd 16 19 rfl (by kernel_rfl)
      exact at_op rfl rfl (below_op (.inl rfl) hI.g rfl e (by omega) _ fun _ _ h => h)
    rcases i with _ | i
    · obtain rfl := (Option.some.inj hi).symm
      obtain ⟨r, e1, _⟩ : KIdx 500 (A.eval (.tmp 4)) W := hI.get hd 1 4 rfl (by kernel_rfl)
      obtain ⟨y, e2⟩ : KInt (A.eval (.tmp 11)) W := hI.get hd 8 11 rfl (by kernel_rfl)
      obtain ⟨z, e3⟩ : KInt (A.eval (.tmp 18)) W := hI.get hd 15 18 rfl (by kernel_rfl)
      obtain ⟨m, e4, _⟩ : KIdx 8 (A.eval (.tmp 20)) W := hI.get hd 17 20 rfl (by kernel_rfl)
      exact at_op rfl rfl (build_op (vals := [(0, .int .i64 (r : Int)), (1, .int .i64 y), (2, .int .i64 z), (3, .int .i64 (m : Int))]) (cs := #[.int .i64 (r : Int), .int .i64 y, .int .i64 z, .int .i64 (m : Int)]) rfl (by rw [← e1, ← e2, ← e3, ← e4]; rfl) (by kernel_rfl)
        ⟨_, rfl, ⟨⟨r, y, z, m⟩, rfl⟩, hI.g, Rel.refl _ _⟩)
    rcases i with _ | i
    · obtain rfl := (Option.some.inj hi).symm
      obtain ⟨t, e1⟩ : KTm (A.eval (.tmp 21)) W := hI.get hd 18 21 rfl (by kernel_rfl)
      have e2 : A.eval (.tmp 2) = .pointer (some ⟨w.heap.size, 0, none⟩) := hI.old 2 (by kernel_rfl)
      obtain ⟨u, hr⟩ := hI.g.row
      have ho : Onto w.heap.size W (W.setRow w.heap.size #[.int .i64 t.c, .int .i64 t.v, .int .i64 t.s, .int .i64 t.m]) := ⟨rfl, rfl, rfl, by simp, fun k hk _ => setRow_other W _ k _ hk⟩
      exact at_op rfl rfl (wp_store_row _ _ _ rfl _ _ e2 e1 _ _ hr.row info_tm rfl (by simp [Value.oneCell'])
        ⟨_, rfl, trivial, ⟨drawn_other hI.g.drawn ho (Nat.le_refl _) hold, ⟨t, Row.of (setRow_heap W _ _ _ _ _ hr.row)⟩, hI.g.ne, hI.g.new⟩, Rel.onto ho (.inr rfl)⟩)
    omega
  case done =>
    intro A W hI
    have e2 : A.tmps.getD 2 undef = .pointer (some ⟨w.heap.size, 0, none⟩) := hI.old 2 (by kernel_rfl)
    have hA := frame_lit A 22 hI.size
    have hg := hI.g
    have hde : A.defers = [] := hI.defers
    rw [hde, show List.range 22 = [0, 1, 2, 3, 4, 5, 6, 7, 8, 9, 10, 11, 12, 13, 14, 15, 16, 17, 18, 19, 20, 21] from rfl] at hA
    simp only [List.map_cons, List.map_nil, e2] at hA
    rw [hA]
    clear hA e2 hI hde
    go_wp2
    refine Dst.ret hg rfl rfl rfl ?_
    intro t
    exact ⟨t, rfl, hg.drawn.onto, HH.out.trans hg.drawn.onto, hg.drawn.cur⟩
/-- A struct's block, in which some field is written anew. -/
theorem Row.some {w : World} {b : Nat} {t : Tm} {T : TypeId} (h : Row w b #[.int .i64 t.c, .int .i64 t.v, .int .i64 t.s, .int .i64 t.m] T) (i : Nat) (x : Int) : ∃ u : Tm, Row (w.setCell ⟨b, i, none⟩ (.int .i64 x)) b #[.int .i64 u.c, .int .i64 u.v, .int .i64 u.s, .int .i64 u.m] T := by
  have hs := h.set i (.int .i64 x)
  rcases i with _ | _ | _ | _ | i
  · exact ⟨⟨x, t.v, t.s, t.m⟩, by simpa using hs⟩
  · exact ⟨⟨t.c, x, t.s, t.m⟩, by simpa using hs⟩
  · exact ⟨⟨t.c, t.v, x, t.m⟩, by simpa using hs⟩
  · exact ⟨⟨t.c, t.v, t.s, x⟩, by simpa using hs⟩
  · exact ⟨t, by simpa using hs⟩
set_option maxHeartbeats 4000000 in
theorem l4DrawAny_any {w0 : World} {p : Nat} {a : Option Addr} {len cap : Nat} (w : World) (h : Drawn p a len cap w0 w) :
    Calls Tryz.prog 62 #[.pointer (some ⟨p, 0, none⟩)] w fun e w' => ∃ t : Tm, e = .returned t.val ∧ Onto p w w' ∧ Drawn p a len cap w0 w' := by
  have hp := h.cur.lt
  have hold : OldC p a len w := ⟨hp, h.cur.code.lt⟩
  have HH : Hid (Onto p w0 w) := h.onto
  have hS : Dst p a len cap w w.heap.size (w.alloc (.cells #[.int .i64 0, .int .i64 0, .int .i64 0, .int .i64 0] 26)) := ⟨h.cur.drawn.alloc _, ⟨⟨0, 0, 0, 0⟩, Row.new _ _ _⟩, hp, Nat.le_refl _⟩
  clear h
  go_enter Tryz.func62, Tryz.ntmps62
  go_wp2_with fail
  go_at_call 126
  refine (l4Draw_any (w0 := w) _ hS.drawn).mono ?_
  rintro e w1 ⟨t, rfl, ho1, hd1⟩
  replace hS := hS.onto ho1 hd1
  have ht : t.val = .agg #[.int .i64 t.c, .int .i64 t.v, .int .i64 t.s, .int .i64 t.m] := rfl
  rw [ht]
  clear ho1 hd1
  have hlt1 : w.heap.size < w1.heap.size := by obtain ⟨u, r⟩ := hS.row; exact r.lt
  have r3 := Row.new w1 #[.int .i64 t.c, .int .i64 t.v, .int .i64 t.s, .int .i64 t.m] 26
  replace hS := hS.alloc (.cells #[.int .i64 t.c, .int .i64 t.v, .int .i64 t.s, .int .i64 t.m] 26)
  have hp1 : p ≠ w1.heap.size := by omega
  go_wp2_with fail
  go_at_call 27
  refine (once_any _ _ hS.drawn (by omega)).mono ?_
  rintro e w2 ⟨q, rfl, ho2, hd2⟩
  replace hS := hS.onto ho2 hd2
  replace r3 := r3.onto ho2 (Ne.symm hp1)
  clear ho2 hd2
  cases q
  · obtain ⟨u, r0⟩ := hS.row
    have c3 := r3.cell
    go_wp2_with (refine st_tm rfl rfl rfl rfl r0 rfl ?_; intro w3 r4 ho4 hs4)
    refine ret_row rfl rfl r4 und_tm rfl info_tm rfl ?_
    have hd4 := drawn_other hS.drawn ho4 (Nat.le_refl _) hold
    exact ⟨t, rfl, hd4.onto, HH.out.trans hd4.onto, hd4.cur⟩
  · go_wp2_with fail
    go_at_call 28
    refine (below_any _ _ hS.drawn (by omega)).mono ?_
    rintro e w3 ⟨r, rfl, hr, ho3, hd3⟩
    replace hS := hS.onto ho3 hd3
    replace r3 := r3.onto ho3 (Ne.symm hp1)
    clear ho3 hd3
    have fin : ∀ (W W2 : World) (i : Nat) (x : Int) (u : Tm), Dst p a len cap w w.heap.size W → Onto w.heap.size (W.setCell ⟨w1.heap.size, i, none⟩ (.int .i64 x)) W2 → Onto p w W2 ∧ Drawn p a len cap w0 W2 := fun W W2 i x u hW ho => by
      have hd := drawn_other (drawn_new hW.drawn hold.1 hold.2 (q := ⟨w1.heap.size, i, none⟩) (by simp; omega) (.int .i64 x)) ho (Nat.le_refl _) hold
      exact ⟨hd.onto, HH.out.trans hd.onto, hd.cur⟩
    obtain rfl | rfl | rfl | rfl : r = 0 ∨ r = 1 ∨ r = 2 ∨ r = 3 := by omega
    · go_wp2_with fail
      go_at_call 60
      refine (num_any _ _ hS.drawn (by omega) (by omega)).mono ?_
      rintro e w4 ⟨x, rfl, hx, ho4, hd4⟩
      replace hS := hS.onto ho4 hd4
      replace r3 := r3.onto ho4 (Ne.symm hp1)
      obtain ⟨u, r0⟩ := hS.row
      have c3 := r3.cell
      have f3 := r3.free
      go_wp2_with (refine st_tm rfl rfl rfl rfl (r0.setOther ⟨w1.heap.size, 0, none⟩ (.int .i64 x) (by simp; omega)) rfl ?_; intro w5 r5 ho5 hs5)
      refine ret_row rfl rfl r5 und_tm rfl info_tm rfl ?_
      exact ⟨⟨x, t.v, t.s, t.m⟩, rfl, fin _ _ _ _ u hS ho5⟩
    · go_wp2_with fail
      go_at_call 60
      refine (num_any _ _ hS.drawn (by omega) (by omega)).mono ?_
      rintro e w4 ⟨x, rfl, hx, ho4, hd4⟩
      replace hS := hS.onto ho4 hd4
      replace r3 := r3.onto ho4 (Ne.symm hp1)
      obtain ⟨u, r0⟩ := hS.row
      have c3 := r3.cell
      have f3 := r3.free
      go_wp2_with (refine st_tm rfl rfl rfl rfl (r0.setOther ⟨w1.heap.size, 1, none⟩ (.int .i64 x) (by simp; omega)) rfl ?_; intro w5 r5 ho5 hs5)
      refine ret_row rfl rfl r5 und_tm rfl info_tm rfl ?_
      exact ⟨⟨t.c, x, t.s, t.m⟩, rfl, fin _ _ _ _ u hS ho5⟩
    · go_wp2_with fail
      go_at_call 60
      refine (num_any _ _ hS.drawn (by omega) (by omega)).mono ?_
      rintro e w4 ⟨x, rfl, hx, ho4, hd4⟩
      replace hS := hS.onto ho4 hd4
      replace r3 := r3.onto ho4 (Ne.symm hp1)
      obtain ⟨u, r0⟩ := hS.row
      have c3 := r3.cell
      have f3 := r3.free
      go_wp2_with (refine st_tm rfl rfl rfl rfl (r0.setOther ⟨w1.heap.size, 2, none⟩ (.int .i64 x) (by simp; omega)) rfl ?_; intro w5 r5 ho5 hs5)
      refine ret_row rfl rfl r5 und_tm rfl info_tm rfl ?_
      exact ⟨⟨t.c, t.v, x, t.m⟩, rfl, fin _ _ _ _ u hS ho5⟩
    · go_wp2_with fail
      go_at_call 61
      refine (from_any _ _ _ hS.drawn (by omega) (by omega) (by omega)).mono ?_
      rintro e w4 ⟨x, rfl, hx, ho4, hd4⟩
      replace hS := hS.onto ho4 hd4
      replace r3 := r3.onto ho4 (Ne.symm hp1)
      obtain ⟨u, r0⟩ := hS.row
      have c3 := r3.cell
      have f3 := r3.free
      go_wp2_with (refine st_tm rfl rfl rfl rfl (r0.setOther ⟨w1.heap.size, 3, none⟩ (.int .i64 x) (by simp; omega)) rfl ?_; intro w5 r5 ho5 hs5)
      refine ret_row rfl rfl r5 und_tm rfl info_tm rfl ?_
      exact ⟨⟨t.c, t.v, t.s, x⟩, rfl, fin _ _ _ _ u hS ho5⟩
end Go.Proofs.YtocofjimkfffeaaGreatDoor.Tmr
