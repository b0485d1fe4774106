/-
  Notes and pipes as they are drawn.
-/
import Derived.Test.YtggfjghcgacdnaaNtLaw
import Derived.Test.YtggfjghcgacdnaaPpF
import Derived.Test.YtggfjghcgacdnaaDraw
namespace Go.Proofs.Ytggfjghcgacdnaa.Mem
open Go.ChangeShapes Go.WideShapes Go.RowKit Base Num Slc Slf Rw Tmr Reg Draw
set_option linter.unusedVariables false
set_option linter.unusedSimpArgs false
set_option maxRecDepth 20000

section
variable {ops : Array Oper} {rest : List Oper} {o : Oper} {a : Act} {w : World} {Q : Exit → Act → World → Prop} {x y p q : Operand} {g k : Nat} {v : Value} {n : Nt} {m m0 : M3}
theorem alMg (hgd : o.guard = none) (ho : o.op = .alloc 28)
    (h : ∀ w', M3Row w' w.heap.size M3.nul → Below w.heap.size w w' → wpList Try.prog ops Q rest (a.put o.dst (.pointer (some ⟨w.heap.size, 0, none⟩))) w') : wpList Try.prog ops Q (o :: rest) a w :=
  wpList_plain hgd fun _ hK => by
    have e : (execOp a.eval o).run Try.prog w = .ok (.value (.pointer (some ⟨w.heap.size, 0, none⟩))) (w.alloc (.cells #[.int .i64 M3.nul.t, .int .i64 M3.nul.k, .int .i64 M3.nul.v] 28)) := by
      unfold execOp
      rw [ho]
      kernel_rfl
    unfold Oper.wp
    rw [e]
    exact hK _ _ (h _ (Row.new _ _ _) ((Below.refl _ _).alloc (Nat.le_refl _) _))
theorem stMg (hgd : o.guard = none) (ho : o.op = .store 28 p q) (hx : a.eval p = .pointer (some ⟨g, 0, none⟩)) (hy : a.eval q = m.val) (hr : M3Row w g m0)
    (h : ∀ w', M3Row w' g m → Onto g w w' → w'.heap.size = w.heap.size → wpList Try.prog ops Q rest (a.put o.dst undef) w') : wpList Try.prog ops Q (o :: rest) a w :=
  st_row hgd _ p q ho hx hy hr info_m3 rfl (by simp [Value.oneCell']) h
/-- A note of a message alone. -/
theorem bldNt (hgd : o.guard = none) (ho : o.op = .build 30 #[(2, x)]) (hx : a.eval x = m.val)
    (h : wpList Try.prog ops Q rest (a.put o.dst (Nt.mk false 0 m).val) w) : wpList Try.prog ops Q (o :: rest) a w :=
  wpList_plain hgd fun _ hK => build_op (parts := [(2, x)]) (vals := [(2, m.val)]) (cs := #[.bool false, .int .i64 0, .int .i64 m.t, .int .i64 m.k, .int .i64 m.v]) ho (by simp [hx]) (by rw [m3_val]; kernel_rfl) (hK _ _ h)
/-- A promise. -/
theorem bldPr {z : Int} (hgd : o.guard = none) (ho : o.op = .build 30 #[(0, .const (.bool true)), (1, x)]) (hx : a.eval x = .int .i64 z)
    (h : wpList Try.prog ops Q rest (a.put o.dst (Nt.mk true z M3.nul).val) w) : wpList Try.prog ops Q (o :: rest) a w :=
  wpList_plain hgd fun _ hK => build_op (parts := [(0, .const (.bool true)), (1, x)]) (vals := [(0, .bool true), (1, .int .i64 z)]) (cs := #[.bool true, .int .i64 z, .int .i64 0, .int .i64 0, .int .i64 0]) ho (by show [(0, a.eval (.const (.bool true))), (1, a.eval x)] = _; rw [hx]; rfl) (by kernel_rfl) (hK _ _ h)
theorem st_ntk (hgd : o.guard = none) (ho : o.op = .store 2 p q) (hx : a.eval p = .pointer (some ⟨g, 3, none⟩)) {z : Int} (hy : a.eval q = .int .i64 z) (hr : NtRow w g n)
    (h : ∀ w', NtRow w' g ⟨n.p, n.t, ⟨n.m.t, z, n.m.v⟩⟩ → Onto g w w' → w'.heap.size = w.heap.size → wpList Try.prog ops Q rest (a.put o.dst undef) w') : wpList Try.prog ops Q (o :: rest) a w :=
  st_in (vs := [.int .i64 z]) hgd ho hx hy hr rfl szi_nt rfl rfl rfl h
end
section
variable {w0 : World} {p : Nat} {a : Option Addr} {len cap : Nat}
theorem drawMg_any (q : Int) (w : World) (h : Drawn p a len cap w0 w) :
    Calls Try.prog 57 #[.pointer (some ⟨p, 0, none⟩), .int .i64 q] w fun e w' => ∃ m : M3, e = .returned m.val ∧ Onto p w w' ∧ Drawn p a len cap w0 w' := by
  have HO : Hid (∀ w', Drawn p a len cap w w' → Onto p w w' ∧ Drawn p a len cap w0 w') := show ∀ _, _ from fun w' hd => ⟨hd.onto, h.onto.trans hd.onto, hd.cur⟩
  have hc := h.cur.drawn
  have HL : Hid (OldC p a len w) := show _ ∧ _ from ⟨h.cur.lt, h.cur.code.lt⟩
  have hpl := h.cur.lt
  clear h
  go_enter Try.func57, Try.ntmps57
  go_wp2_with (refine alMg rfl rfl ?_; intro w1 z1 hb1; have d1 := hc.below hb1; have l1 := z1.lt)
  go_at_call 51
  refine (from_any 1 3 _ d1 (by omega) (by omega) (by omega)).mono ?_
  rintro e w2 ⟨x, rfl, hx, o2, d2⟩
  have z2 := z1.onto o2 (by omega)
  by_cases h3 : x = 3
  · subst h3
    go_wp2_with (first
      | (go_at_call 47; refine (below_any 256 _ d2 (by omega)).mono ?_; rintro e w3 ⟨r, rfl, hr, o3, d3⟩; have z3 : M3Row w3 w.heap.size M3.nul := z2.onto o3 (by omega))
      | (refine stMg (m := ⟨q, 3, r⟩) rfl rfl rfl rfl z3 ?_; rintro w4 r4 o4 -))
    exact ret_row rfl rfl r4 Try.underlying28 rfl info_m3 rfl ⟨⟨q, 3, r⟩, rfl, HO.out _ (drawn_other d3 o4 (Nat.le_refl _) HL.out)⟩
  · go_wp2_with (first
      | (go_at_call 47; refine (below_any 2 _ d2 (by omega)).mono ?_; rintro e w3 ⟨r, rfl, hr, o3, d3⟩; have z3 : M3Row w3 w.heap.size M3.nul := z2.onto o3 (by omega))
      | (refine stMg (m := ⟨q, x, r⟩) rfl rfl rfl rfl z3 ?_; rintro w4 r4 o4 -))
    exact ret_row rfl rfl r4 Try.underlying28 rfl info_m3 rfl ⟨⟨q, x, r⟩, rfl, HO.out _ (drawn_other d3 o4 (Nat.le_refl _) HL.out)⟩
theorem drawNote_any (w : World) (h : Drawn p a len cap w0 w) :
    Calls Try.prog 48 #[.pointer (some ⟨p, 0, none⟩)] w fun e w' => ∃ n : Nt, e = .returned n.val ∧ Onto p w w' ∧ Drawn p a len cap w0 w' := by
  have HO : Hid (∀ w', Drawn p a len cap w w' → Onto p w w' ∧ Drawn p a len cap w0 w') := show ∀ _, _ from fun w' hd => ⟨hd.onto, h.onto.trans hd.onto, hd.cur⟩
  have hc := h.cur.drawn
  have HL : Hid (OldC p a len w) := show _ ∧ _ from ⟨h.cur.lt, h.cur.code.lt⟩
  have hpl := h.cur.lt
  clear h
  go_enter Try.func48, Try.ntmps48
  go_wp2_with (refine al_nt' rfl rfl ?_; intro w1 z1 hb1; have d1 := hc.below hb1; have l1 := z1.lt)
  go_at_call 49
  refine (once_any 2 _ d1 (by omega)).mono ?_
  rintro e w2 ⟨b, rfl, o2, d2⟩
  have z2 := z1.onto o2 (by omega)
  cases b
  · go_wp2_with fail
    go_at_call 47
    refine (below_any 100 _ d2 (by omega)).mono ?_
    rintro e w3 ⟨r, rfl, hr, o3, d3⟩
    have z3 := z2.onto o3 (by omega)
    go_wp2_with fail
    go_at_call 57
    refine (drawMg_any _ _ d3).mono ?_
    rintro e w4 ⟨m, rfl, o4, d4⟩
    have z4 : NtRow w4 w.heap.size Nt.nul := z3.onto o4 (by omega)
    go_wp2_with (first
      | (refine bldNt rfl rfl rfl ?_)
      | (refine st_ntv (m := ⟨false, 0, m⟩) rfl rfl rfl rfl z4 ?_; rintro w5 r5 o5 -))
    exact ret_row rfl rfl r5 Try.underlying30 rfl info_nt rfl ⟨⟨false, 0, m⟩, rfl, HO.out _ (drawn_other d4 o5 (Nat.le_refl _) HL.out)⟩
  · go_wp2_with fail
    go_at_call 47
    refine (below_any 100 _ d2 (by omega)).mono ?_
    rintro e w3 ⟨r, rfl, hr, o3, d3⟩
    have z3 : NtRow w3 w.heap.size Nt.nul := z2.onto o3 (by omega)
    go_wp2_with (first
      | (refine bldPr rfl rfl rfl ?_)
      | (refine st_ntv (m := ⟨true, r, M3.nul⟩) rfl rfl rfl rfl z3 ?_; rintro w5 r5 o5 -))
    exact ret_row rfl rfl r5 Try.underlying30 rfl info_nt rfl ⟨⟨true, r, M3.nul⟩, rfl, HO.out _ (drawn_other d3 o5 (Nat.le_refl _) HL.out)⟩
theorem drawNoteAny_any (w : World) (h : Drawn p a len cap w0 w) :
    Calls Try.prog 31 #[.pointer (some ⟨p, 0, none⟩)] w fun e w' => ∃ n : Nt, e = .returned n.val ∧ Onto p w w' ∧ Drawn p a len cap w0 w' := by
  have HO : Hid (∀ w', Drawn p a len cap w w' → Onto p w w' ∧ Drawn p a len cap w0 w') := show ∀ _, _ from fun w' hd => ⟨hd.onto, h.onto.trans hd.onto, hd.cur⟩
  have hc := h.cur.drawn
  have HL : Hid (OldC p a len w) := show _ ∧ _ from ⟨h.cur.lt, h.cur.code.lt⟩
  have hpl := h.cur.lt
  clear h
  go_enter Try.func31, Try.ntmps31
  go_wp2_with (refine al_nt' rfl rfl ?_; intro w1 z1 hb1; have d1 := hc.below hb1; have l1 := z1.lt; have y1 := hb1.size)
  go_at_call 48
  refine (drawNote_any _ d1).mono ?_
  rintro e w2 ⟨n0, rfl, o2, d2⟩
  have z2 := z1.onto o2 (by omega)
  have y2 := o2.size
  go_wp2_with (first
    | (refine al_nt' rfl rfl ?_; intro w3 x3 hb3; have d3 := d2.below hb3; have z3 := z2.below hb3; have l3 := x3.lt; have y3 := hb3.size)
    | (refine st_ntv (m := n0) rfl rfl rfl rfl x3 ?_; rintro w4 x4 o4 -; have z4 := z3.onto o4 (by omega); have d4 := drawn_other d3 o4 (by omega) HL.out))
  go_at_call 49
  refine (once_any 6 _ d4 (by omega)).mono ?_
  rintro e w5 ⟨b, rfl, o5, d5⟩
  have z5 : NtRow w5 w.heap.size Nt.nul := z4.onto o5 (by omega)
  have x5 : NtRow w5 w2.heap.size n0 := x4.onto o5 (by omega)
  cases b
  · go_wp2_with (first
      | (refine ld_nt (n := n0) rfl rfl rfl x5 ?_)
      | (refine st_ntv (m := n0) rfl rfl rfl rfl z5 ?_; rintro w9 r9 o9 -))
    exact ret_row rfl rfl r9 Try.underlying30 rfl info_nt rfl ⟨n0, rfl, HO.out _ (drawn_other d5 o9 (Nat.le_refl _) HL.out)⟩
  · go_wp2_with fail
    go_at_call 47
    refine (below_any 3 _ d5 (by omega)).mono ?_
    rintro e w6 ⟨r, rfl, hr, o6, d6⟩
    have z6 : NtRow w6 w.heap.size Nt.nul := z5.onto o6 (by omega)
    have x6 : NtRow w6 w2.heap.size n0 := x5.onto o6 (by omega)
    have c60 : w6.cell? ⟨w2.heap.size, 0, none⟩ = some (.bool n0.p) := x6.cell 0
    obtain rfl | rfl | rfl : r = 0 ∨ r = 1 ∨ r = 2 := by omega
    · go_wp2_with (first
        | (refine st_ntp (z := !n0.p) rfl rfl rfl rfl x6 ?_; rintro w8 x8 o8 -; have z8 : NtRow w8 w.heap.size Nt.nul := z6.onto o8 (by omega); have d8 := drawn_other d6 o8 (by omega) HL.out)
        | (refine ld_nt (n := ⟨!n0.p, n0.t, n0.m⟩) rfl rfl rfl x8 ?_)
        | (refine st_ntv (m := ⟨!n0.p, n0.t, n0.m⟩) rfl rfl rfl rfl z8 ?_; rintro w9 r9 o9 -))
      exact ret_row rfl rfl r9 Try.underlying30 rfl info_nt rfl ⟨_, rfl, HO.out _ (drawn_other d8 o9 (Nat.le_refl _) HL.out)⟩
    · go_wp2_with fail
      go_at_call 50
      refine (num_any 1000000100 _ d6 (by omega) (by omega)).mono ?_
      rintro e w7 ⟨t, rfl, ht, o7, d7⟩
      have z7 : NtRow w7 w.heap.size Nt.nul := z6.onto o7 (by omega)
      have x7 : NtRow w7 w2.heap.size n0 := x6.onto o7 (by omega)
      go_wp2_with (first
        | (refine st_ntt (z := t) rfl rfl rfl rfl x7 ?_; rintro w8 x8 o8 -; have z8 : NtRow w8 w.heap.size Nt.nul := z7.onto o8 (by omega); have d8 := drawn_other d7 o8 (by omega) HL.out)
        | (refine ld_nt (n := ⟨n0.p, t, n0.m⟩) rfl rfl rfl x8 ?_)
        | (refine st_ntv (m := ⟨n0.p, t, n0.m⟩) rfl rfl rfl rfl z8 ?_; rintro w9 r9 o9 -))
      exact ret_row rfl rfl r9 Try.underlying30 rfl info_nt rfl ⟨_, rfl, HO.out _ (drawn_other d8 o9 (Nat.le_refl _) HL.out)⟩
    · go_wp2_with fail
      go_at_call 51
      refine (from_any 0 4 _ d6 (by omega) (by omega) (by omega)).mono ?_
      rintro e w7 ⟨t, rfl, ht, o7, d7⟩
      have z7 : NtRow w7 w.heap.size Nt.nul := z6.onto o7 (by omega)
      have x7 : NtRow w7 w2.heap.size n0 := x6.onto o7 (by omega)
      go_wp2_with (first
        | (refine st_ntk (z := t) rfl rfl rfl rfl x7 ?_; rintro w8 x8 o8 -; have z8 : NtRow w8 w.heap.size Nt.nul := z7.onto o8 (by omega); have d8 := drawn_other d7 o8 (by omega) HL.out)
        | (refine ld_nt (n := ⟨n0.p, n0.t, ⟨n0.m.t, t, n0.m.v⟩⟩) rfl rfl rfl x8 ?_)
        | (refine st_ntv (m := ⟨n0.p, n0.t, ⟨n0.m.t, t, n0.m.v⟩⟩) rfl rfl rfl rfl z8 ?_; rintro w9 r9 o9 -))
      exact ret_row rfl rfl r9 Try.underlying30 rfl info_nt rfl ⟨_, rfl, HO.out _ (drawn_other d8 o9 (Nat.le_refl _) HL.out)⟩
end
/-- As region_km, but what is told must stay for those alone that have come. -/
theorem region_kn {P : Program} {ops : Array Oper} {Q : Exit → Act → World → Prop} {a0 : Act} {w : World} {id : Nat} (hm : P.follows .mixedOrders = true) (hac : acyc ops = true) (hds : dstOk ops a0.tmps.size = true) (S : (Nat → Bool) → World → Prop) (kinds : Nat → Value → World → Prop)
    (hS : ∀ (L L' : Nat → Bool) W, (∀ j, j < ops.size → L j = L' j) → S L W → S L' W) (h0 : S (fun _ => false) w.drew)
    (step : ∀ (L : Nat → Bool) (i : Nat) (o : Oper) (a : Act) (w : World), ops[i]? = some o → InvL ops (mJ ops S kinds) a0 L a w → L i = false → (∀ d ∈ deps o, L d = true) →
      wpOp P ops Q i (fun a' w' => ∃ v, a' = a.put o.dst v ∧ S (fun j => L j || j == i) w' ∧ (∀ j v, L j = true → kinds j v w → kinds j v w') ∧ (o.dst ≠ none → kinds i v w')) a w)
    (done : ∀ a w, InvL ops (mJ ops S kinds) a0 (fun _ => true) a w → S (fun _ => true) w → Q .normal a w) : (Code.region id ops true).wp P Q a0 w := by
  refine region_J hm hac (mJ ops S kinds) (fun L L' f W hL h => ⟨hS L L' W hL h.1, fun j k hj hk => h.2 j k (by rw [hL j (bind_lt hk)]; exact hj) hk⟩) ⟨h0, fun j k h => by simp at h⟩ (fun L i o a w ho hI hLi hr => ?_) (fun a w hI => done a w hI hI.j.1)
  refine wpOp_mono ?_ (step L i o a w ho hI hLi hr)
  rintro a' w' ⟨v, rfl, hs, hst, hk⟩
  refine ⟨v, rfl, hs, fun j k hj hjk => ?_⟩
  by_cases e : j = i
  · subst e
    have hk' : o.dst = some k := by rw [ho] at hjk; exact hjk
    show kinds j ((a.put o.dst v).tmps.getD k undef) w'
    rw [hk', getD_put_same _ _ _ (by rw [hI.size]; exact dst_lt hds hjk)]
    exact hk (by rw [hk']; simp)
  · have hLj : L j = true := by simpa [e] using hj
    have hne : o.dst ≠ some k := fun e' => e (dst_one hds hjk (by rw [ho]; exact e'))
    show kinds j ((a.put o.dst v).tmps.getD k undef) w'
    rw [getD_put _ _ _ _ hne]
    exact hst j _ hLj (hI.j.2 j k hLj hjk)
/-- What stands while a drawn note goes behind a drawn pipe's: has it been appended (L), has that been laid (M). -/
structure Gdn (p : Nat) (a : Option Addr) (len cap : Nat) (w0 : World) (base g n1 : Nat) (c : Int) (v : Value) (l : List Nt) (gz : Nat) (L M : Bool) (W : World) : Prop where
  z : Row W gz #[.int .i64 0, .slice none 0 0] 26
  dr : Drawn p a len cap w0 W
  sz : n1 ≤ W.heap.size
  own : L = false → OwnF fN base W v l
  row : if M then ∃ v' n, Row W g #[.int .i64 c, v'] 26 ∧ OwnF fN base W v' (l ++ [n]) else Row W g #[.int .i64 c, v] 26
def kDn (p g base n1 : Nat) (v : Value) (l : List Nt) : List (Value → World → Prop) :=
  [KIs (.pointer (some ⟨g, 1, none⟩)), KIs v, KIs (.pointer (some ⟨p, 0, none⟩)), fun x _ => ∃ n : Nt, x = n.val, fun x W => ∃ (b : Nat) (n : Nt), x = .slice (some ⟨b, 0, none⟩) 1 1 ∧ OwnF fN n1 W x [n], fun x W => ∃ n, OwnF fN base W x (l ++ [n]), KIs (.pointer (some ⟨g, 1, none⟩))]
theorem kDn_keep {p g base n1 : Nat} {v : Value} {l : List Nt} (j : Nat) (x : Value) (W W' : World) (h : (kDn p g base n1 v l).getD j KAny x W) (h1 : ∀ k, n1 ≤ k → k < W.heap.size → W'.heap[k]? = W.heap[k]?) (h2 : j = 5 → ∀ k, x.ownBlock = some k → W'.heap[k]? = W.heap[k]?) : (kDn p g base n1 v l).getD j KAny x W' := by
  rcases j with _ | _ | _ | _ | _ | _ | _ | j
  all_goals first | exact h | skip
  · obtain ⟨b, n, e, o⟩ := h
    exact ⟨b, n, e, o.kept fun k hk => h1 k (o.lt k hk).1 (o.lt k hk).2⟩
  · obtain ⟨n, o⟩ := h
    exact ⟨n, o.kept fun k hk => h2 rfl k hk⟩
theorem drawn_grown' {p : Nat} {a : Option Addr} {len cap : Nat} {w0 w w' : World} {row : Option Nat} (h : Drawn p a len cap w0 w) (ho : OldC p a len w0) (hg : w.grownBy w' row) (hr : ∀ k, row = some k → w0.heap.size ≤ k) : Drawn p a len cap w0 w' := by
  cases hrow : row with
  | none => exact h.below ⟨hg.os, hg.tape, hg.output, hg.size, fun k hk => hg.block k hk (by rw [hrow]; simp)⟩
  | some q => exact drawn_other h (q := q) ⟨hg.os, hg.tape, hg.output, hg.size, fun k hk hl => hg.block k hl (by rw [hrow]; simpa using hk)⟩ (hr q hrow) ho
/-- A list goes into its place in a pipe's block, in a drawn region. -/
theorem st1_op {o : Oper} {A : Act} {w : World} {K : Act → World → Prop} {Q : Exit → Act → World → Prop} {x y : Operand} {g : Nat} {u v v0 : Value} {T : TypeId} (ho : o.op = .store 24 x y) (hx : A.eval x = .pointer (some ⟨g, 1, none⟩)) (hy : A.eval y = v) (hr : Row w g #[u, v0] T) (h1 : v.oneCell' = true)
    (h : ∀ w', Row w' g #[u, v] T → Onto g w w' → K (A.put o.dst undef) w') : o.wp Try.prog A w K Q := by
  unfold Oper.wp execOp
  simp only [ho, hx, hy, Instr.storeAt, Instr.sureAddr, Sem.run_bind, Sem.run_pure, Result.andThen_ok, run_store_in (P := Try.prog) w g 1 24 v [v] (cells_1 h1) (hr.there 1 1 (show 1 + 1 ≤ 2 from Nat.le_refl _)) sz_nts (by simp [h1])]
  exact h _ (hr.cells [v] 1) (onto_cells [v] 1 _ _ (Onto.refl _ _))
/-- A pipe with its room alone. -/
theorem bldPp {ops : Array Oper} {rest : List Oper} {o : Oper} {a : Act} {w : World} {Q : Exit → Act → World → Prop} {x : Operand} {z : Int} (hgd : o.guard = none) (ho : o.op = .build 26 #[(0, x)]) (hx : a.eval x = .int .i64 z)
    (h : wpList Try.prog ops Q rest (a.put o.dst (.agg #[.int .i64 z, .slice none 0 0])) w) : wpList Try.prog ops Q (o :: rest) a w :=
  wpList_plain hgd fun _ hK => build_op (parts := [(0, x)]) (vals := [(0, .int .i64 z)]) (cs := #[.int .i64 z, .slice none 0 0]) ho (by simp [hx]) (by kernel_rfl) (hK _ _ h)
section
variable {w0 : World} {p : Nat} {a : Option Addr} {len cap : Nat}
set_option maxHeartbeats 2000000 in
theorem drawPipe_any (w : World) (h : Drawn p a len cap w0 w) :
    Calls Try.prog 30 #[.pointer (some ⟨p, 0, none⟩)] w fun e w' => ∃ (c : Int) (v : Value) (l : List Nt), e = .returned (.agg #[.int .i64 c, v]) ∧ OwnF fN w.heap.size w' v l ∧ l.length ≤ 6 ∧ Onto p w w' ∧ Drawn p a len cap w0 w' := by
  have HO : Hid (∀ w', Drawn p a len cap w w' → Onto p w w' ∧ Drawn p a len cap w0 w') := show ∀ _, _ from fun w' hd => ⟨hd.onto, h.onto.trans hd.onto, hd.cur⟩
  have hc := h.cur.drawn
  have HL : Hid (OldC p a len w) := show _ ∧ _ from ⟨h.cur.lt, h.cur.code.lt⟩
  have hpl := h.cur.lt
  clear h
  go_enter Try.func30, Try.ntmps30
  go_wp2_with (refine al_pp rfl rfl ?_; intro w1 z1 hb1; have d1 := hc.below hb1; have l1 := z1.lt; have y1 := hb1.size)
  go_at_call 47
  refine (below_any 4 _ d1 (by omega)).mono ?_
  rintro e w2 ⟨r, rfl, hr, o2, d2⟩
  have z2 := z1.onto o2 (by omega)
  have y2 := o2.size
  go_wp2_with (first
    | (refine bldPp rfl rfl rfl ?_)
    | (refine al_pp rfl rfl ?_; intro w3 x3 hb3; have d3 := d2.below hb3; have z3 := z2.below hb3; have l3 := x3.lt; have y3 := hb3.size)
    | (refine st_pp rfl rfl rfl rfl x3 rfl rfl ?_; rintro w4 x4 o4 -; have z4 := z3.onto o4 (by omega); have d4 := drawn_other d3 o4 (by omega) HL.out; have c40 : w4.cell? ⟨w2.heap.size, 0, none⟩ = some (.int .i64 (1 + (r : Int))) := x4.cell 0))
  go_at_call 47
  refine (below_any _ _ d4 (by omega)).mono ?_
  rintro e w5 ⟨k0, rfl, hk0, o5, d5⟩
  have z5 := z4.onto o5 (by omega)
  have x5 := x4.onto o5 (by omega)
  have ho5 : OwnF fN w.heap.size w5 (.slice none 0 0) [] := OwnF.nil _ _ _
  obtain ⟨cc, hcc⟩ : ∃ cc : Int, 1 + (r : Int) = cc := ⟨_, rfl⟩
  have HI : Hid (Row w5 w2.heap.size #[.int .i64 (1 + (r : Int)), .slice none 0 0] 26 ∧ Row w5 w.heap.size #[.int .i64 0, .slice none 0 0] 26 ∧ Drawn p a len cap w w5) := ⟨x5, z5, d5⟩
  obtain ⟨gg, hgg⟩ : ∃ gg, gg = w2.heap.size := ⟨_, rfl⟩
  have hgw : w.heap.size < gg := by omega
  rw [← hgg] at HI ⊢
  have k4 : k0 ≤ 4 := by omega
  clear z1 z2 z3 z4 z5 x3 x4 x5 d1 d2 d3 d4 d5 c40 hc hcc cc ho5 hgg o2 o4 o5 hb1 hb3 l1 l3 y1 y2 y3 hk0
  go_wp2_with fail
  go_loopw [4] (fun iv wr => ∃ (v : Value) (l : List Nt) (k : Nat), iv = .int .i64 (k : Int) ∧ l.length + k ≤ 5 ∧ OwnF fN w.heap.size wr v l ∧ Row wr gg #[.int .i64 (1 + (r : Int)), v] 26 ∧ Row wr w.heap.size #[.int .i64 0, .slice none 0 0] 26 ∧ Drawn p a len cap w wr) (fun iv _ => (intOf iv).toNat)
  case atStart => exact ⟨.slice none 0 0, [], k0, rfl, by simp; omega, OwnF.nil _ _ _, HI.out.1, HI.out.2.1, HI.out.2.2⟩
  case round =>
    clear HI
    obtain ⟨v, l, k, rfl, hn, ho, hr, hz, hd⟩ := hrel
    by_cases hk : 0 < k
    · have hlr := hr.lt
      have hlz := hz.lt
      have hone := (ho.sl okN).one
      go_wp2_with fail
      refine region_kn (by kernel_rfl) (by kernel_rfl) (by kernel_rfl) (fun L W => Gdn p a len cap w w.heap.size gg wr.heap.size (1 + (r : Int)) v l w.heap.size (L 5) (L 7) W) (fun j => (kDn p gg w.heap.size wr.heap.size v l).getD j KAny) (fun L L' W hL h => by rw [← hL 5 (by decide), ← hL 7 (by decide)]; exact h) ⟨hz.drewN 1, hd.drewN 1, Nat.le_refl _, fun _ => ho.drewN 1, hr.drewN 1⟩ ?step ?done
      case step =>
        intro L ix o A W hi hI hLi hdp
        have hin : ix < 8 := by
          by_cases hl : ix < 8
          · exact hl
          · simp [hl] at hi
        have hsz : A.tmps.size = 44 := hI.size
        have hg : Gdn p a len cap w w.heap.size gg wr.heap.size (1 + (r : Int)) v l w.heap.size (L 5) (L 7) W := hI.j.1
        have st7 : L 5 = false → L 7 = false := fun h5 => hI.waits h5 7 rfl (by kernel_rfl)
        have belo : ∀ {W'}, Below W.heap.size W W' → Gdn p a len cap w w.heap.size gg wr.heap.size (1 + (r : Int)) v l w.heap.size (L 5) (L 7) W' := fun hb => ⟨hg.z.below hb, hg.dr.below hb, Nat.le_trans hg.sz hb.size, fun h => (hg.own h).below hb, by
          have := hg.row
          cases h7 : L 7
          · rw [h7] at this; exact Row.below this hb
          · rw [h7] at this; obtain ⟨v', n, q1, q2⟩ := this; exact ⟨v', n, q1.below hb, q2.below hb⟩⟩
        have keepb : ∀ {W'}, Below W.heap.size W W' → ∀ j x, L j = true → (kDn p gg w.heap.size wr.heap.size v l).getD j KAny x W → (kDn p gg w.heap.size wr.heap.size v l).getD j KAny x W' := fun hb j x hj h => by
          refine kDn_keep j x W _ h (fun k _ hk => hb.block k hk) (fun h5 k hk => ?_)
          subst h5
          obtain ⟨n, o⟩ := h
          exact hb.block k (o.lt k hk).2
        rcases ix with _ | _ | _ | _ | _ | _ | _ | _ | ix
        · cases hi
          have e1 : A.eval (.tmp 3) = .pointer (some ⟨gg, 0, none⟩) := hI.old 3 (by kernel_rfl)
          refine at_op rfl rfl (val_op (v := .pointer (some ⟨gg, 1, none⟩)) ?_ ⟨_, rfl, by simpa using hg, fun _ _ _ h => h, fun _ => rfl⟩)
          unfold execOp
          simp only [List.getElem_toArray, List.getElem_cons_zero, List.getElem_cons_succ, e1]
          simp [go_sem]
        · cases hi
          have e1 : A.eval (.tmp 18) = .pointer (some ⟨gg, 1, none⟩) := hI.km hdp 0 18 rfl rfl (by kernel_rfl)
          have h5 : L 5 = false := hI.waits hLi 5 rfl (by kernel_rfl)
          have c0 : W.cell? ⟨gg, 1, none⟩ = some v := by have := hg.row; rw [st7 h5] at this; exact Row.cell this 1
          refine at_op rfl rfl (val_op (v := v) ?_ ⟨_, rfl, by simpa using hg, fun _ _ _ h => h, fun _ => rfl⟩)
          unfold execOp
          simp only [List.getElem_toArray, List.getElem_cons_zero, List.getElem_cons_succ, e1]
          simp [go_sem, c0]
        · cases hi
          exact at_op rfl rfl (move_op rfl ⟨_, rfl, by simpa using hg, fun _ _ _ h => h, fun _ => hI.old 0 (by kernel_rfl)⟩)
        · cases hi
          have e1 : A.eval (.tmp 20) = .pointer (some ⟨p, 0, none⟩) := hI.km hdp 2 20 rfl rfl (by kernel_rfl)
          have h5 : L 5 = false := hI.waits (hI.waits hLi 4 rfl (by kernel_rfl)) 5 rfl (by kernel_rfl)
          refine at_op rfl rfl (call_op rfl Try.func48 (by kernel_rfl) (by kernel_rfl) ?_)
          simp only [List.map_cons, List.map_nil, e1]
          refine (drawNote_any _ hg.dr).mono ?_
          rintro e W' ⟨n, rfl, on, dn⟩
          refine ⟨_, rfl, _, rfl, ?_, fun j x hj h => kDn_keep j x W _ h (fun k hk hl => on.block k (by omega) hl) (fun e5 => by subst e5; rw [h5] at hj; cases hj), fun _ => ⟨n, rfl⟩⟩
          have h7 := st7 h5
          have hr7 : Row W gg #[.int .i64 (1 + (r : Int)), v] 26 := by have := hg.row; rw [h7] at this; exact this
          have ho5 := hg.own h5
          exact ⟨hg.z.onto on (by omega), dn, Nat.le_trans hg.sz on.size, fun _ => ho5.onto on (fun e => by have := (ho5.lt _ e).1; omega), by simp only [h7]; exact hr7.onto on (by omega)⟩
        · cases hi
          obtain ⟨n, e1⟩ : ∃ n : Nt, A.eval (.tmp 21) = n.val := hI.km hdp 3 21 rfl rfl (by kernel_rfl)
          refine at_op rfl rfl (oneF_op okN rfl e1 (by kernel_rfl) ?_)
          intro W' hlit hb
          exact ⟨_, rfl, by simpa using belo hb, keepb hb, fun _ => ⟨W.heap.size, n, rfl, hlit.mono hg.sz⟩⟩
        · cases hi
          have e1 : A.eval (.tmp 19) = v := hI.km hdp 1 19 rfl rfl (by kernel_rfl)
          obtain ⟨b, n, e2, h4⟩ : ∃ (b : Nat) (n : Nt), A.eval (.tmp 22) = .slice (some ⟨b, 0, none⟩) 1 1 ∧ OwnF fN wr.heap.size W (A.eval (.tmp 22)) [n] := hI.km hdp 4 22 rfl rfl (by kernel_rfl)
          have hown := hg.own hLi
          have h7 := st7 hLi
          have hr7 : Row W gg #[.int .i64 (1 + (r : Int)), v] 26 := by have := hg.row; rw [h7] at this; exact this
          refine at_op rfl rfl (appE_op okN w.heap.size l [n] rfl (by rw [e1]; exact hown) (h4.sl okN) (by simp; omega) (by have := hg.sz; omega) ?_)
          intro v' W' ho' hgr
          rw [e1] at hgr
          have hvb : ∀ k, v.ownBlock = some k → k < wr.heap.size ∧ w.heap.size ≤ k := fun k hk => ⟨(ho.lt k hk).2, (ho.lt k hk).1⟩
          have hvg := hown.not_row hr7 (by decide)
          have hvz := hown.not_row hg.z (by decide)
          refine ⟨_, rfl, ⟨hg.z.keep (hgr.block _ hg.z.lt (fun e => hvz e.symm)), drawn_grown' hg.dr HL.out hgr (fun k hk => by have := hvb k hk; omega), Nat.le_trans hg.sz hgr.size, fun h => by simp at h, by simp only [h7]; exact hr7.keep (hgr.block _ hr7.lt (fun e => hvg e.symm))⟩, fun j x hj h => kDn_keep j x W _ h (fun k hk hl => hgr.block k hl (fun e => by have := hvb k e.symm; omega)) (fun e5 => by subst e5; rw [hLi] at hj; cases hj), fun _ => ⟨n, ho'⟩⟩
        · cases hi
          have e1 : A.eval (.tmp 3) = .pointer (some ⟨gg, 0, none⟩) := hI.old 3 (by kernel_rfl)
          refine at_op rfl rfl (val_op (v := .pointer (some ⟨gg, 1, none⟩)) ?_ ⟨_, rfl, by simpa using hg, fun _ _ _ h => h, fun _ => rfl⟩)
          unfold execOp
          simp only [List.getElem_toArray, List.getElem_cons_zero, List.getElem_cons_succ, e1]
          simp [go_sem]
        · cases hi
          have e1 : A.eval (.tmp 24) = .pointer (some ⟨gg, 1, none⟩) := hI.km hdp 6 24 rfl rfl (by kernel_rfl)
          obtain ⟨n, h5⟩ : ∃ n, OwnF fN w.heap.size W (A.eval (.tmp 23)) (l ++ [n]) := hI.km hdp 5 23 rfl rfl (by kernel_rfl)
          have hL5 : L 5 = true := hI.came hdp 5 (by kernel_rfl)
          have hr7 : Row W gg #[.int .i64 (1 + (r : Int)), v] 26 := by have := hg.row; rw [hLi] at this; exact this
          have o1 := h5.one okN
          obtain ⟨x5, hx5⟩ : ∃ x5, A.eval (.tmp 23) = x5 := ⟨_, rfl⟩
          rw [hx5] at h5 o1
          have hn5 := h5.not_row hr7 (by decide)
          refine at_op rfl rfl (st1_op rfl e1 hx5 hr7 o1 ?_)
          intro W' r' on
          refine ⟨_, rfl, ⟨hg.z.onto on (by omega), drawn_other hg.dr on (by omega) HL.out, Nat.le_trans hg.sz on.size, fun h => by simp [hL5] at h, ?_⟩, fun j x hj h => kDn_keep j x W _ h (fun k hk hl => on.block k (by omega) hl) (fun e5 k hk => by
            subst e5
            obtain ⟨n', o'⟩ := h
            exact on.block k (fun e => o'.not_row hr7 (by decide) (by rw [hk, e])) (o'.lt k hk).2), fun h => absurd rfl h⟩
          simp only [BEq.rfl, Bool.or_true, if_true]
          exact ⟨x5, n, r', h5.onto on hn5⟩
        · omega
      case done =>
        intro A W hI hS
        have hg : Gdn p a len cap w w.heap.size gg wr.heap.size (1 + (r : Int)) v l w.heap.size true true W := hS
        obtain ⟨v', n, hr', ho'⟩ := hg.row
        have hd' := hg.dr
        have hz' := hg.z
        have hA := hI.frame [18, 19, 20, 21, 22, 23, 24] (by kernel_rfl)
        rw [hA]
        simp only [putAll, List.foldl_cons, List.foldl_nil, Act.put, List.setIfInBounds_toArray, List.set_cons_zero, List.set_cons_succ]
        clear hA hI hg hS
        clear ho hr hz hd
        go_wp2_with fail
        go_roundw
        case rel => exact ⟨v', l ++ [n], k - 1, by go_num, by simp; omega, ho', hr', hz', hd'⟩
        case measure => simp [intOf]; omega
    · have hone := (ho.sl okN).one
      have hlr := hr.lt
      have hlz := hz.lt
      go_wp2_with fail
      go_at_call 49
      refine (once_any 8 _ hd (by omega)).mono ?_
      rintro e w6 ⟨b, rfl, o6, d6⟩
      have r6 := hr.onto o6 (by omega)
      have z6 := hz.onto o6 (by omega)
      have h6 := ho.onto o6 (fun e => by have := (ho.lt _ e).1; omega)
      cases b
      · go_wp2_with (first
          | (refine ld_pp rfl rfl rfl r6 ?_)
          | (refine st_pp rfl rfl rfl rfl z6 rfl hone ?_; rintro w9 r9 o9 -))
        exact ret_row rfl rfl r9 Try.underlying26 rfl info_pp rfl ⟨_, _, _, rfl, h6.onto o9 (h6.not_row z6 (by decide)), by omega, HO.out _ (drawn_other d6 o9 (Nat.le_refl _) HL.out)⟩
      · go_wp2_with fail
        go_at_call 47
        refine (below_any 2 _ d6 (by omega)).mono ?_
        rintro e w7 ⟨q, rfl, hq, o7, d7⟩
        have r7 := r6.onto o7 (by omega)
        have z7 := z6.onto o7 (by omega)
        have h7 := h6.onto o7 (fun e => by have := (h6.lt _ e).1; omega)
        obtain rfl | rfl : q = 0 ∨ q = 1 := by omega
        · go_wp2_with fail
          go_at_call 50
          refine (num_any 8 _ d7 (by omega) (by omega)).mono ?_
          rintro e w8 ⟨t, rfl, ht, o8, d8⟩
          have r8 := r7.onto o8 (by omega)
          have z8 := z7.onto o8 (by omega)
          have h8 := h7.onto o8 (fun e => by have := (h7.lt _ e).1; omega)
          go_wp2_with (first
            | (refine st_pp0 rfl rfl rfl rfl r8 ?_; rintro w9 r9 o9 -; have z9 := z8.onto o9 (by omega); have h9 := h8.onto o9 (h8.not_row r8 (by decide)); have d9 := drawn_other d8 o9 (by omega) HL.out)
            | (refine ld_pp rfl rfl rfl r9 ?_)
            | (refine st_pp rfl rfl rfl rfl z9 rfl hone ?_; rintro w10 r10 o10 -))
          exact ret_row rfl rfl r10 Try.underlying26 rfl info_pp rfl ⟨_, _, _, rfl, h9.onto o10 (h9.not_row z9 (by decide)), by omega, HO.out _ (drawn_other d9 o10 (Nat.le_refl _) HL.out)⟩
        · clear ho hr hz hd r6 z6 h6 d6 hone hlr hlz
          have hlr := r7.lt
          have hlz := z7.lt
          have ho := h7
          have hr := r7
          have hz := z7
          have hd := d7
          clear h7 r7 z7 d7
          go_wp2_with fail
          refine region_kn (by kernel_rfl) (by kernel_rfl) (by kernel_rfl) (fun L W => Gdn p a len cap w w.heap.size gg w7.heap.size (1 + (r : Int)) v l w.heap.size (L 5) (L 7) W) (fun j => (kDn p gg w.heap.size w7.heap.size v l).getD j KAny) (fun L L' W hL h => by rw [← hL 5 (by decide), ← hL 7 (by decide)]; exact h) ⟨hz.drewN 1, hd.drewN 1, Nat.le_refl _, fun _ => ho.drewN 1, hr.drewN 1⟩ ?step ?done
          case step =>
            intro L ix o A W hi hI hLi hdp
            have hin : ix < 8 := by
              by_cases hl : ix < 8
              · exact hl
              · simp [hl] at hi
            have hsz : A.tmps.size = 44 := hI.size
            have hg : Gdn p a len cap w w.heap.size gg w7.heap.size (1 + (r : Int)) v l w.heap.size (L 5) (L 7) W := hI.j.1
            have st7 : L 5 = false → L 7 = false := fun h5 => hI.waits h5 7 rfl (by kernel_rfl)
            have belo : ∀ {W'}, Below W.heap.size W W' → Gdn p a len cap w w.heap.size gg w7.heap.size (1 + (r : Int)) v l w.heap.size (L 5) (L 7) W' := fun hb => ⟨hg.z.below hb, hg.dr.below hb, Nat.le_trans hg.sz hb.size, fun h => (hg.own h).below hb, by
              have := hg.row
              cases h7 : L 7
              · rw [h7] at this; exact Row.below this hb
              · rw [h7] at this; obtain ⟨v', n, q1, q2⟩ := this; exact ⟨v', n, q1.below hb, q2.below hb⟩⟩
            have keepb : ∀ {W'}, Below W.heap.size W W' → ∀ j x, L j = true → (kDn p gg w.heap.size w7.heap.size v l).getD j KAny x W → (kDn p gg w.heap.size w7.heap.size v l).getD j KAny x W' := fun hb j x hj h => by
              refine kDn_keep j x W _ h (fun k _ hk => hb.block k hk) (fun h5 k hk => ?_)
              subst h5
              obtain ⟨n, o⟩ := h
              exact hb.block k (o.lt k hk).2
            rcases ix with _ | _ | _ | _ | _ | _ | _ | _ | ix
            · cases hi
              have e1 : A.eval (.tmp 3) = .pointer (some ⟨gg, 0, none⟩) := hI.old 3 (by kernel_rfl)
              refine at_op rfl rfl (val_op (v := .pointer (some ⟨gg, 1, none⟩)) ?_ ⟨_, rfl, by simpa using hg, fun _ _ _ h => h, fun _ => rfl⟩)
              unfold execOp
              simp only [List.getElem_toArray, List.getElem_cons_zero, List.getElem_cons_succ, e1]
              simp [go_sem]
            · cases hi
              have e1 : A.eval (.tmp 36) = .pointer (some ⟨gg, 1, none⟩) := hI.km hdp 0 36 rfl rfl (by kernel_rfl)
              have h5 : L 5 = false := hI.waits hLi 5 rfl (by kernel_rfl)
              have c0 : W.cell? ⟨gg, 1, none⟩ = some v := by have := hg.row; rw [st7 h5] at this; exact Row.cell this 1
              refine at_op rfl rfl (val_op (v := v) ?_ ⟨_, rfl, by simpa using hg, fun _ _ _ h => h, fun _ => rfl⟩)
              unfold execOp
              simp only [List.getElem_toArray, List.getElem_cons_zero, List.getElem_cons_succ, e1]
              simp [go_sem, c0]
            · cases hi
              exact at_op rfl rfl (move_op rfl ⟨_, rfl, by simpa using hg, fun _ _ _ h => h, fun _ => hI.old 0 (by kernel_rfl)⟩)
            · cases hi
              have e1 : A.eval (.tmp 38) = .pointer (some ⟨p, 0, none⟩) := hI.km hdp 2 38 rfl rfl (by kernel_rfl)
              have h5 : L 5 = false := hI.waits (hI.waits hLi 4 rfl (by kernel_rfl)) 5 rfl (by kernel_rfl)
              refine at_op rfl rfl (call_op rfl Try.func31 (by kernel_rfl) (by kernel_rfl) ?_)
              simp only [List.map_cons, List.map_nil, e1]
              refine (drawNoteAny_any _ hg.dr).mono ?_
              rintro e W' ⟨n, rfl, on, dn⟩
              refine ⟨_, rfl, _, rfl, ?_, fun j x hj h => kDn_keep j x W _ h (fun k hk hl => on.block k (by omega) hl) (fun e5 => by subst e5; rw [h5] at hj; cases hj), fun _ => ⟨n, rfl⟩⟩
              have h7 := st7 h5
              have hr7 : Row W gg #[.int .i64 (1 + (r : Int)), v] 26 := by have := hg.row; rw [h7] at this; exact this
              have ho5 := hg.own h5
              exact ⟨hg.z.onto on (by omega), dn, Nat.le_trans hg.sz on.size, fun _ => ho5.onto on (fun e => by have := (ho5.lt _ e).1; omega), by simp only [h7]; exact hr7.onto on (by omega)⟩
            · cases hi
              obtain ⟨n, e1⟩ : ∃ n : Nt, A.eval (.tmp 39) = n.val := hI.km hdp 3 39 rfl rfl (by kernel_rfl)
              refine at_op rfl rfl (oneF_op okN rfl e1 (by kernel_rfl) ?_)
              intro W' hlit hb
              exact ⟨_, rfl, by simpa using belo hb, keepb hb, fun _ => ⟨W.heap.size, n, rfl, hlit.mono hg.sz⟩⟩
            · cases hi
              have e1 : A.eval (.tmp 37) = v := hI.km hdp 1 37 rfl rfl (by kernel_rfl)
              obtain ⟨b, n, e2, h4⟩ : ∃ (b : Nat) (n : Nt), A.eval (.tmp 40) = .slice (some ⟨b, 0, none⟩) 1 1 ∧ OwnF fN w7.heap.size W (A.eval (.tmp 40)) [n] := hI.km hdp 4 40 rfl rfl (by kernel_rfl)
              have hown := hg.own hLi
              have h7 := st7 hLi
              have hr7 : Row W gg #[.int .i64 (1 + (r : Int)), v] 26 := by have := hg.row; rw [h7] at this; exact this
              refine at_op rfl rfl (appE_op okN w.heap.size l [n] rfl (by rw [e1]; exact hown) (h4.sl okN) (by simp; omega) (by have := hg.sz; omega) ?_)
              intro v' W' ho' hgr
              rw [e1] at hgr
              have hvb : ∀ k, v.ownBlock = some k → k < w7.heap.size ∧ w.heap.size ≤ k := fun k hk => ⟨(ho.lt k hk).2, (ho.lt k hk).1⟩
              have hvg := hown.not_row hr7 (by decide)
              have hvz := hown.not_row hg.z (by decide)
              refine ⟨_, rfl, ⟨hg.z.keep (hgr.block _ hg.z.lt (fun e => hvz e.symm)), drawn_grown' hg.dr HL.out hgr (fun k hk => by have := hvb k hk; omega), Nat.le_trans hg.sz hgr.size, fun h => by simp at h, by simp only [h7]; exact hr7.keep (hgr.block _ hr7.lt (fun e => hvg e.symm))⟩, fun j x hj h => kDn_keep j x W _ h (fun k hk hl => hgr.block k hl (fun e => by have := hvb k e.symm; omega)) (fun e5 => by subst e5; rw [hLi] at hj; cases hj), fun _ => ⟨n, ho'⟩⟩
            · cases hi
              have e1 : A.eval (.tmp 3) = .pointer (some ⟨gg, 0, none⟩) := hI.old 3 (by kernel_rfl)
              refine at_op rfl rfl (val_op (v := .pointer (some ⟨gg, 1, none⟩)) ?_ ⟨_, rfl, by simpa using hg, fun _ _ _ h => h, fun _ => rfl⟩)
              unfold execOp
              simp only [List.getElem_toArray, List.getElem_cons_zero, List.getElem_cons_succ, e1]
              simp [go_sem]
            · cases hi
              have e1 : A.eval (.tmp 42) = .pointer (some ⟨gg, 1, none⟩) := hI.km hdp 6 42 rfl rfl (by kernel_rfl)
              obtain ⟨n, h5⟩ : ∃ n, OwnF fN w.heap.size W (A.eval (.tmp 41)) (l ++ [n]) := hI.km hdp 5 41 rfl rfl (by kernel_rfl)
              have hL5 : L 5 = true := hI.came hdp 5 (by kernel_rfl)
              have hr7 : Row W gg #[.int .i64 (1 + (r : Int)), v] 26 := by have := hg.row; rw [hLi] at this; exact this
              have o1 := h5.one okN
              obtain ⟨x5, hx5⟩ : ∃ x5, A.eval (.tmp 41) = x5 := ⟨_, rfl⟩
              rw [hx5] at h5 o1
              have hn5 := h5.not_row hr7 (by decide)
              refine at_op rfl rfl (st1_op rfl e1 hx5 hr7 o1 ?_)
              intro W' r' on
              refine ⟨_, rfl, ⟨hg.z.onto on (by omega), drawn_other hg.dr on (by omega) HL.out, Nat.le_trans hg.sz on.size, fun h => by simp [hL5] at h, ?_⟩, fun j x hj h => kDn_keep j x W _ h (fun k hk hl => on.block k (by omega) hl) (fun e5 k hk => by
                subst e5
                obtain ⟨n', o'⟩ := h
                exact on.block k (fun e => o'.not_row hr7 (by decide) (by rw [hk, e])) (o'.lt k hk).2), fun h => absurd rfl h⟩
              simp only [BEq.rfl, Bool.or_true, if_true]
              exact ⟨x5, n, r', h5.onto on hn5⟩
            · omega
          case done =>
            intro A W hI hS
            have hg : Gdn p a len cap w w.heap.size gg w7.heap.size (1 + (r : Int)) v l w.heap.size true true W := hS
            obtain ⟨v', n, hr', ho'⟩ := hg.row
            have hd' := hg.dr
            have hz' := hg.z
            have hA := hI.frame [36, 37, 38, 39, 40, 41, 42] (by kernel_rfl)
            rw [hA]
            simp only [putAll, List.foldl_cons, List.foldl_nil, Act.put, List.setIfInBounds_toArray, List.set_cons_zero, List.set_cons_succ]
            clear hA hI hg hS
            have hone' := (ho'.sl okN).one
            clear ho hr hz hd
            go_wp2_with (first
              | (refine ld_pp rfl rfl rfl hr' ?_)
              | (refine st_pp rfl rfl rfl rfl hz' rfl hone' ?_; rintro w10 r10 o10 -))
            exact ret_row rfl rfl r10 Try.underlying26 rfl info_pp rfl ⟨_, _, _, rfl, ho'.onto o10 (ho'.not_row hz' (by decide)), by simp; omega, HO.out _ (drawn_other hd' o10 (Nat.le_refl _) HL.out)⟩
end
/-- What stands while a drawn pipe and a drawn note are handed back: has the pipe been laid (L), has the note (M). -/
structure Gdw (p : Nat) (a : Option Addr) (len cap : Nat) (w0 : World) (n0 g2 g3 gp : Nat) (c : Int) (v : Value) (l : List Nt) (L M : Bool) (W : World) : Prop where
  dr : Drawn p a len cap w0 W
  src : Row W gp #[.int .i64 c, v] 26
  own : OwnF fN n0 W v l
  pip : if L then Row W g2 #[.int .i64 c, v] 26 else Row W g2 #[.int .i64 0, .slice none 0 0] 26
  nte : ∃ n : Nt, Row W g3 (ncs n) 30
theorem drawn_ne {p q : Nat} {a : Option Addr} {len cap : Nat} {w0 w w' : World} (h : Drawn p a len cap w0 w) (ho : Onto q w w') (hq : w0.heap.size ≤ q) (hne : p ≠ q) (hx : 0 < len → ∀ x, a = some x → x.block ≠ q) : Drawn p a len cap w0 w' :=
  ⟨⟨ho.os.trans h.onto.os, ho.tape.trans h.onto.tape, ho.output.trans h.onto.output, Nat.le_trans h.onto.size ho.size, fun k hk hl => by
    have := h.onto.size
    rw [ho.block k (by omega) (by omega)]; exact h.onto.block k hk hl⟩, h.cur.onto ho hne hx⟩
theorem ret_pn {fn : Func} {R : Ending → World → Prop} {a : Act} {w : World} {r s : Tmp} {n : Nt} (h : fn.results = #[.cell r 26, .cell s 30]) {g g' : Nat} {T : TypeId} {x y : Value}
    (hp : a.tmps.getD r undef = .pointer (some ⟨g, 0, none⟩)) (hr : Row w g #[x, y] T) (hs : a.tmps.getD s undef = .pointer (some ⟨g', 0, none⟩)) (hn : Row w g' (ncs n) 30) (hde : a.defers = []) (hR : R (.returned (.tuple #[.agg #[x, y], n.val])) w) : bodyPost Try.prog fn R .ret a w := by
  refine bodyPost_ret ?_ hde hR
  have hp' : a.tmps[r]?.getD undef = .pointer (some ⟨g, 0, none⟩) := by simpa using hp
  have hs' : a.tmps[s]?.getD undef = .pointer (some ⟨g', 0, none⟩) := by simpa using hs
  simp [results, h, hp', hs', asAddr, run_loadVar_row w g T 26 #[x, y] (0, 0) _ hr.row Try.underlying26 rfl info_pp, run_loadVar_row w g' 30 30 (ncs n) (0, 0) _ hn.row Try.underlying30 rfl info_nt, ncs_val]
theorem drawPipeFirst_any (a : Option Addr) (len cap : Nat) (w : World) (hc : CodeAt w a len) (hl : len ≤ 4096) :
    Calls Try.prog 12 #[.slice a len cap] w fun e w' => ∃ (c : Int) (v : Value) (l : List Nt), e = .returned (.agg #[.int .i64 c, v]) ∧ OwnF fN w.heap.size w' v l ∧ l.length ≤ 6 ∧ Below w.heap.size w w' := by
  go_enter Try.func12, Try.ntmps12
  go_wp2_with (refine al_pp rfl rfl ?_; intro w1 z1 b1; have l1 := z1.lt)
  go_at_call 29
  refine (new_any a len cap _ (hc.below b1) hl).mono ?_
  rintro e w2 ⟨rfl, b2, cu⟩
  have z2 := z1.below b2
  have s1 := b1.size
  have s2 := b2.size
  have l2 := cu.lt
  go_wp2_with fail
  go_at_call 30
  refine (drawPipe_any _ cu.drawn).mono ?_
  rintro e w3 ⟨c, v, l, rfl, ho, hn, o3, d3⟩
  have z3 := z2.onto o3 (by omega)
  have hone := (ho.sl okN).one
  have B3 := below_onto (below_more b1 b2) o3 (by omega)
  go_wp2_with (refine st_pp rfl rfl rfl rfl z3 rfl hone ?_; rintro w4 r4 o4 -)
  exact ret_row rfl rfl r4 Try.underlying26 rfl info_pp rfl ⟨_, _, _, rfl, (ho.onto o4 (fun e => by have := (ho.lt _ e).1; omega)).mono (by omega), hn, below_onto B3 o4 (by omega)⟩
theorem drawPipeWith_any (a : Option Addr) (len cap : Nat) (w : World) (hc : CodeAt w a len) (hl : len ≤ 4096) :
    Calls Try.prog 9 #[.slice a len cap] w fun e w' => ∃ (c : Int) (v : Value) (l : List Nt) (n : Nt), e = .returned (.tuple #[.agg #[.int .i64 c, v], n.val]) ∧ OwnF fN w.heap.size w' v l ∧ l.length ≤ 6 ∧ Below w.heap.size w w' := by
  go_enter Try.func9, Try.ntmps9
  go_wp2_with (first
    | (refine al_pp rfl rfl ?_; intro w1 z1 b1; have l1 := z1.lt)
    | (refine al_nt rfl rfl ?_; intro w2 x2 b2; have z2 := z1.below b2; have l2 := x2.lt))
  go_at_call 29
  refine (new_any a len cap _ (hc.below (below_more b1 b2)) hl).mono ?_
  rintro e w3 ⟨rfl, b3, cu⟩
  have z3 := z2.below b3
  have x3 := x2.below b3
  have s1 := b1.size
  have s2 := b2.size
  have s3 := b3.size
  have l3 := cu.lt
  have hcx : 0 < len → ∀ x, a = some x → x.block < w.heap.size := hc.lt
  have C3 := below_more (below_more b1 b2) b3
  have d3 : Drawn w2.heap.size a len cap w w3 := ⟨⟨C3.os, C3.tape, C3.output, C3.size, fun k _ hk => C3.block k hk⟩, cu⟩
  go_wp2_with fail
  go_at_call 30
  refine (drawPipe_any _ d3).mono ?_
  rintro e w4 ⟨c, v, l, rfl, ho, hn, o4, d4⟩
  have z4 := z3.onto o4 (by omega)
  have x4 := x3.onto o4 (by omega)
  have hone := (ho.sl okN).one
  have s4 := o4.size
  go_wp2_with (first
    | (refine al_pp rfl rfl ?_; intro w5 x5 b5; have y5 := x5.lt; have s5 := b5.size; have z5 := z4.below b5; have n5 := x4.below b5; have d5 := d4.below b5; have h5 := ho.below b5)
    | (refine st_pp rfl rfl rfl rfl x5 rfl hone ?_; rintro w6 x6 o6 -; have z6 := z5.onto o6 (by omega); have n6 := n5.onto o6 (by omega); have d6 := drawn_ne d5 o6 (by omega) (by omega) (fun h0 x e => by have := hcx h0 x e; omega); have h6 := h5.onto o6 (fun e => by have := (ho.lt _ e).2; omega)))
  obtain ⟨p, hp⟩ : ∃ p, p = w2.heap.size := ⟨_, rfl⟩
  obtain ⟨gp, hgp⟩ : ∃ gp, gp = w4.heap.size := ⟨_, rfl⟩
  obtain ⟨n0, hn0⟩ : ∃ n0, n0 = w3.heap.size := ⟨_, rfl⟩
  rw [← hp] at d6 ⊢
  rw [← hgp] at x6 ⊢
  rw [← hn0] at h6
  have hG : Gdw p a len cap w n0 w.heap.size w1.heap.size gp c v l false false w6 := ⟨d6, x6, h6, z6, ⟨_, n6⟩⟩
  have q1 : w1.heap.size < p := by omega
  have q2 : p < n0 := by omega
  have q3 : n0 ≤ gp := by omega
  have q4 : w.heap.size < w1.heap.size := by have := z1.lt; omega
  clear z4 z5 z6 x4 x5 x6 n5 n6 d3 d4 d5 d6 h5 h6 b1 b2 b3 b5 ho z1 z2 z3 x2 x3 cu o4 o6 C3 hp hgp hn0
  refine region_kn (by kernel_rfl) (by kernel_rfl) (by kernel_rfl) (fun L W => Gdw p a len cap w n0 w.heap.size w1.heap.size gp c v l (L 3) (L 4) W) (fun j => ([KIs (.agg #[.int .i64 c, v]), KIs (.pointer (some ⟨p, 0, none⟩)), fun x _ => ∃ n : Nt, x = n.val] : List (Value → World → Prop)).getD j KAny) (fun L L' W hL h => by rw [← hL 3 (by decide), ← hL 4 (by decide)]; exact h) ⟨hG.dr.drewN 1, hG.src.drewN 1, hG.own.drewN 1, hG.pip.drewN 1, ⟨_, hG.nte.choose_spec.drewN 1⟩⟩ ?step ?done
  case step =>
    intro L ix o A W hi hI hLi hd
    have hin : ix < 5 := by
      by_cases hl : ix < 5
      · exact hl
      · simp [hl] at hi
    have hsz : A.tmps.size = 13 := hI.size
    have hg : Gdw p a len cap w n0 w.heap.size w1.heap.size gp c v l (L 3) (L 4) W := hI.j.1
    have kee : ∀ j x W', ([KIs (.agg #[.int .i64 c, v]), KIs (.pointer (some ⟨p, 0, none⟩)), fun x _ => ∃ n : Nt, x = n.val] : List (Value → World → Prop)).getD j KAny x W → ([KIs (.agg #[.int .i64 c, v]), KIs (.pointer (some ⟨p, 0, none⟩)), fun x _ => ∃ n : Nt, x = n.val] : List (Value → World → Prop)).getD j KAny x W' := fun j x W' h => by
      rcases j with _ | _ | _ | j <;> exact h
    rcases ix with _ | _ | _ | _ | _ | ix
    · cases hi
      have e1 : A.eval (.tmp 5) = .pointer (some ⟨gp, 0, none⟩) := hI.old 5 (by kernel_rfl)
      exact at_op rfl rfl (wp_load_row _ _ rfl _ e1 _ _ _ _ hg.src.row Try.underlying26 rfl info_pp ⟨_, rfl, by simpa using hg, fun _ _ _ h => h, fun _ => rfl⟩)
    · cases hi
      exact at_op rfl rfl (move_op rfl ⟨_, rfl, by simpa using hg, fun _ _ _ h => h, fun _ => hI.old 4 (by kernel_rfl)⟩)
    · cases hi
      have e1 : A.eval (.tmp 11) = .pointer (some ⟨p, 0, none⟩) := hI.km hd 1 11 rfl rfl (by kernel_rfl)
      refine at_op rfl rfl (call_op rfl Try.func31 (by kernel_rfl) (by kernel_rfl) ?_)
      simp only [List.map_cons, List.map_nil, e1]
      refine (drawNoteAny_any _ hg.dr).mono ?_
      rintro e W' ⟨n, rfl, on, dn⟩
      refine ⟨_, rfl, _, rfl, ⟨dn, hg.src.onto on (by omega), hg.own.onto on (fun e => by have := (hg.own.lt _ e).1; omega), ?_, ⟨_, hg.nte.choose_spec.onto on (by omega)⟩⟩, fun j x _ h => kee j x _ h, fun _ => ⟨n, rfl⟩⟩
      have := hg.pip
      cases h3 : L 3
      · rw [h3] at this; simpa [h3] using Row.onto this on (by omega)
      · rw [h3] at this; simpa [h3] using Row.onto this on (by omega)
    · cases hi
      have e1 : A.eval (.tmp 2) = .pointer (some ⟨w.heap.size, 0, none⟩) := hI.old 2 (by kernel_rfl)
      have e2 : A.eval (.tmp 10) = .agg #[.int .i64 c, v] := hI.km hd 0 10 rfl rfl (by kernel_rfl)
      have hr : Row W w.heap.size #[.int .i64 0, .slice none 0 0] 26 := by have := hg.pip; rw [hLi] at this; exact this
      have o1 := hone
      unfold Value.oneCell' at o1
      have hon : Onto w.heap.size W (W.setRow w.heap.size #[.int .i64 c, v]) := ⟨rfl, rfl, rfl, by simp, fun k hk _ => setRow_other W w.heap.size k _ hk⟩
      refine at_op rfl rfl (wp_store_row _ _ _ rfl w.heap.size #[.int .i64 c, v] e1 e2 _ _ hr.row info_pp rfl (by simp only [List.all_toArray, List.all_cons, List.all_nil, Value.oneCell', o1, Bool.and_true]) ⟨_, rfl, ⟨drawn_ne hg.dr hon (Nat.le_refl _) (by omega) (fun h0 x e => by have := hcx h0 x e; omega), hg.src.onto hon (by omega), hg.own.onto hon (fun e => by have := (hg.own.lt _ e).1; omega), ?_, ⟨_, hg.nte.choose_spec.onto hon (by omega)⟩⟩, fun j x _ h => kee j x _ h, fun h => absurd rfl h⟩)
      simp only [BEq.rfl, Bool.or_true, if_true]
      exact Row.of (setRow_heap W w.heap.size _ _ _ _ hr.row)
    · cases hi
      have e1 : A.eval (.tmp 3) = .pointer (some ⟨w1.heap.size, 0, none⟩) := hI.old 3 (by kernel_rfl)
      obtain ⟨n, e2⟩ : ∃ n : Nt, A.eval (.tmp 12) = n.val := hI.km hd 2 12 rfl rfl (by kernel_rfl)
      obtain ⟨n2, hr⟩ := hg.nte
      have hL : L 3 = true := hI.came hd 3 (by kernel_rfl)
      have hp3 : Row W w.heap.size #[.int .i64 c, v] 26 := by have := hg.pip; rw [hL] at this; exact this
      have hon : Onto w1.heap.size W (W.setRow w1.heap.size (ncs n)) := ⟨rfl, rfl, rfl, by simp, fun k hk _ => setRow_other W w1.heap.size k _ hk⟩
      refine at_op rfl rfl (wp_store_row _ _ _ rfl w1.heap.size (ncs n) e1 (e2.trans (ncs_val n)) _ _ hr.row info_nt rfl (ncs_one n) ⟨_, rfl, ⟨drawn_ne hg.dr hon (by omega) (by omega) (fun h0 x e => by have := hcx h0 x e; omega), hg.src.onto hon (by omega), hg.own.onto hon (fun e => by have := (hg.own.lt _ e).1; omega), ?_, ⟨n, Row.of (setRow_heap W w1.heap.size _ _ _ _ hr.row)⟩⟩, fun j x _ h => kee j x _ h, fun h => absurd rfl h⟩)
      simp only [hL, Bool.true_or, if_true]
      exact hp3.onto hon (by omega)
    · omega
  case done =>
    intro A W hI hS
    have hg : Gdw p a len cap w n0 w.heap.size w1.heap.size gp c v l true true W := hS
    obtain ⟨n, q7⟩ := hg.nte
    have q8 : Row W w.heap.size #[.int .i64 c, v] 26 := hg.pip
    have hA := hI.frame [10, 11, 12] (by kernel_rfl)
    rw [hA]
    simp only [putAll, List.foldl_cons, List.foldl_nil, Act.put, List.setIfInBounds_toArray, List.set_cons_zero, List.set_cons_succ]
    clear hA hI
    go_wp2
    exact ret_pn rfl rfl q8 rfl q7 rfl ⟨c, v, ⟨n, rfl⟩, l, hg.own.mono (by omega), hn, hg.dr.onto.below (by omega) (Nat.le_refl _)⟩
end Go.Proofs.Ytggfjghcgacdnaa.Mem
