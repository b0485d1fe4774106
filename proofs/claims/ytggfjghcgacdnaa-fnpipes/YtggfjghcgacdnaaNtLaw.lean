/-
  The laws' own helpers over notes, lists of notes and pipes: a copy, whether two are alike, how great one is.
-/
import Derived.Test.YtggfjghcgacdnaaPp
import Derived.Test.YtggfjghcgacdnaaMsgLaw
namespace Go.Proofs.Ytggfjghcgacdnaa.Mem
open Go.ChangeShapes Go.WideShapes Go.RowKit Base Num Slc Slf Rw Tmr Reg Ex
set_option linter.unusedVariables false
set_option linter.unusedSimpArgs false
set_option maxRecDepth 20000

theorem nts_one (n : Nt) : (#[.bool n.p, .int .i64 n.t, .int .i64 n.m.t, .int .i64 n.m.k, .int .i64 n.m.v] : Array Value).all (·.oneCell') = true := by simp [Value.oneCell']
theorem szi_nt : (Try.prog.info? 2).map (·.size) = some 1 := by kernel_rfl
theorem szb_nt : (Try.prog.info? 4).map (·.size) = some 1 := by kernel_rfl
theorem szm_nt : (Try.prog.info? 28).map (·.size) = some 3 := by kernel_rfl
theorem info_lnt : (Try.prog.info? 47).map (·.size) = some 5 := by kernel_rfl
theorem info_lpp : (Try.prog.info? 52).map (·.size) = some 2 := by kernel_rfl
abbrev LnRow (w : World) (g : Nat) (n : Nt) : Prop := Row w g #[.bool n.p, .int .i64 n.t, .int .i64 n.m.t, .int .i64 n.m.k, .int .i64 n.m.v] 47
section
variable {ops : Array Oper} {rest : List Oper} {o : Oper} {a : Act} {w : World} {Q : Exit → Act → World → Prop} {x y p q : Operand} {g k : Nat} {v u u' : Value} {n : Nt} {T : TypeId}
theorem box_lnt (hgd : o.guard = none) (ho : o.op = .box 47 x) (hx : a.eval x = n.val)
    (h : ∀ w', LnRow w' w.heap.size n → Below w.heap.size w w' → wpList Try.prog ops Q rest (a.put o.dst (.pointer (some ⟨w.heap.size, 0, none⟩))) w') : wpList Try.prog ops Q (o :: rest) a w :=
  wpList_plain hgd fun _ hK => by
    have e : (Instr.box 47 n.val).run Try.prog w = .ok (.pointer (some ⟨w.heap.size, 0, none⟩)) (w.alloc (.cells #[.bool n.p, .int .i64 n.t, .int .i64 n.m.t, .int .i64 n.m.k, .int .i64 n.m.v] 47)) := rfl
    unfold Oper.wp execOp
    simp only [ho, hx, Sem.run_bind, Result.andThen_ok, e]
    exact hK _ _ (h _ (Row.new _ _ _) ((Below.refl _ _).alloc (Nat.le_refl _) _))
theorem ld_lnt (hgd : o.guard = none) (ho : o.op = .load 47 x) (hx : a.eval x = .pointer (some ⟨g, 0, none⟩)) (hr : LnRow w g n)
    (h : wpList Try.prog ops Q rest (a.put o.dst n.val) w) : wpList Try.prog ops Q (o :: rest) a w :=
  ld_row hgd _ x ho hx hr Try.underlying47 rfl info_lnt h
theorem ld_lntm (hgd : o.guard = none) (ho : o.op = .load 45 x) (hx : a.eval x = .pointer (some ⟨g, 2, none⟩)) (hr : LnRow w g n)
    (h : wpList Try.prog ops Q rest (a.put o.dst n.m.val) w) : wpList Try.prog ops Q (o :: rest) a w :=
  wpList_plain hgd fun _ hK => by
    have e : (loadVar 45 ⟨g, 2, none⟩).run Try.prog w = .ok n.m.val w := run_loadVar_mid w g 2 _ n.m.cs _ (fun j u hj => by
      rw [hr.cell]
      rcases j with _ | _ | _ | j
      · exact hj
      · exact hj
      · exact hj
      · simp [M3.cs] at hj) Try.underlying45 rfl (by kernel_rfl)
    unfold Oper.wp execOp
    simp only [ho, hx, Instr.loadAt, Instr.sureAddr, Sem.run_bind, Sem.run_pure, Result.andThen_ok, e]
    exact hK _ _ h
theorem al_nt' (hgd : o.guard = none) (ho : o.op = .alloc 30)
    (h : ∀ w', NtRow w' w.heap.size Nt.nul → Below w.heap.size w w' → wpList Try.prog ops Q rest (a.put o.dst (.pointer (some ⟨w.heap.size, 0, none⟩))) w') : wpList Try.prog ops Q (o :: rest) a w :=
  wpList_plain hgd fun _ hK => by
    have e : (execOp a.eval o).run Try.prog w = .ok (.value (.pointer (some ⟨w.heap.size, 0, none⟩))) (w.alloc (.cells #[.bool Nt.nul.p, .int .i64 Nt.nul.t, .int .i64 Nt.nul.m.t, .int .i64 Nt.nul.m.k, .int .i64 Nt.nul.m.v] 30)) := by
      unfold execOp
      rw [ho]
      kernel_rfl
    unfold Oper.wp
    rw [e]
    exact hK _ _ (h _ (Row.new _ _ _) ((Below.refl _ _).alloc (Nat.le_refl _) _))
theorem st_ntp (hgd : o.guard = none) (ho : o.op = .store 4 p q) (hx : a.eval p = .pointer (some ⟨g, 0, none⟩)) {z : Bool} (hy : a.eval q = .bool z) (hr : NtRow w g n)
    (h : ∀ w', NtRow w' g ⟨z, n.t, n.m⟩ → Onto g w w' → w'.heap.size = w.heap.size → wpList Try.prog ops Q rest (a.put o.dst undef) w') : wpList Try.prog ops Q (o :: rest) a w :=
  st_in (vs := [.bool z]) hgd ho hx hy hr rfl szb_nt rfl rfl rfl h
theorem st_ntt (hgd : o.guard = none) (ho : o.op = .store 2 p q) (hx : a.eval p = .pointer (some ⟨g, 1, none⟩)) {z : Int} (hy : a.eval q = .int .i64 z) (hr : NtRow w g n)
    (h : ∀ w', NtRow w' g ⟨n.p, z, n.m⟩ → Onto g w w' → w'.heap.size = w.heap.size → wpList Try.prog ops Q rest (a.put o.dst undef) w') : wpList Try.prog ops Q (o :: rest) a w :=
  st_in (vs := [.int .i64 z]) hgd ho hx hy hr rfl szi_nt rfl rfl rfl h
theorem st_ntm (hgd : o.guard = none) (ho : o.op = .store 28 p q) (hx : a.eval p = .pointer (some ⟨g, 2, none⟩)) {m : M3} (hy : a.eval q = m.val) (hr : NtRow w g n)
    (h : ∀ w', NtRow w' g ⟨n.p, n.t, m⟩ → Onto g w w' → w'.heap.size = w.heap.size → wpList Try.prog ops Q rest (a.put o.dst undef) w') : wpList Try.prog ops Q (o :: rest) a w :=
  st_in (vs := [.int .i64 m.t, .int .i64 m.k, .int .i64 m.v]) hgd ho hx hy hr rfl szm_nt rfl rfl rfl h
theorem st_ntv (hgd : o.guard = none) (ho : o.op = .store 30 p q) (hx : a.eval p = .pointer (some ⟨g, 0, none⟩)) {m : Nt} (hy : a.eval q = m.val) (hr : NtRow w g n)
    (h : ∀ w', NtRow w' g m → Onto g w w' → w'.heap.size = w.heap.size → wpList Try.prog ops Q rest (a.put o.dst undef) w') : wpList Try.prog ops Q (o :: rest) a w :=
  st_row hgd _ p q ho hx hy hr info_nt rfl (nts_one m) h
theorem box_lpp (hgd : o.guard = none) (ho : o.op = .box 52 p) (hx : a.eval p = .agg #[u, u'])
    (h : ∀ w', Row w' w.heap.size #[u, u'] 52 → Below w.heap.size w w' → wpList Try.prog ops Q rest (a.put o.dst (.pointer (some ⟨w.heap.size, 0, none⟩))) w') : wpList Try.prog ops Q (o :: rest) a w :=
  wpList_plain hgd fun _ hK => by
    have e : (Instr.box 52 (.agg #[u, u'])).run Try.prog w = .ok (.pointer (some ⟨w.heap.size, 0, none⟩)) (w.alloc (.cells #[u, u'] 52)) := rfl
    unfold Oper.wp execOp
    simp only [ho, hx, Sem.run_bind, Result.andThen_ok, e]
    exact hK _ _ (h _ (Row.new _ _ _) ((Below.refl _ _).alloc (Nat.le_refl _) _))
theorem ld_lpp (hgd : o.guard = none) (ho : o.op = .load 52 p) (hx : a.eval p = .pointer (some ⟨g, 0, none⟩)) (hr : Row w g #[u, u'] T) (h : wpList Try.prog ops Q rest (a.put o.dst (.agg #[u, u'])) w) : wpList Try.prog ops Q (o :: rest) a w :=
  ld_row hgd _ p ho hx hr Try.underlying52 rfl info_lpp h
theorem st_pp0 (hgd : o.guard = none) (ho : o.op = .store 2 p q) (hx : a.eval p = .pointer (some ⟨g, 0, none⟩)) {z : Int} (hy : a.eval q = .int .i64 z) (hr : Row w g #[u, u'] T)
    (h : ∀ w', Row w' g #[.int .i64 z, u'] T → Onto g w w' → w'.heap.size = w.heap.size → wpList Try.prog ops Q rest (a.put o.dst undef) w') : wpList Try.prog ops Q (o :: rest) a w :=
  st_in (vs := [.int .i64 z]) (cs' := #[.int .i64 z, u']) hgd ho hx hy hr rfl szi_nt rfl rfl rfl h
end
/-- How the laws' own notes lie. -/
def fLN : Fl Nt := ⟨47, 50, 5, 40, Nt.cs, Nt.nul, Nt.val⟩
theorem okLN : fLN.Ok := ⟨fun _ => rfl, by decide, fun _ => rfl, by kernel_rfl, by kernel_rfl, by decide, by decide, fun _ => rfl, fun m w b q h => run_loadVar_mid w b q _ m.cs _ h Try.underlying47 rfl (by kernel_rfl)⟩
/-- A note goes into its place. -/
theorem stNt {ops : Array Oper} {rest : List Oper} {o : Oper} {a : Act} {w : World} {Q : Exit → Act → World → Prop} {x y : Operand} {g base n cap i q : Nat} {l : List Nt} {e e' : Nt} (hgd : o.guard = none) (ho : o.op = .store 30 x y) (hx : a.eval x = .pointer (some ⟨g, q, none⟩)) (hy : a.eval y = e'.val) (hown : OwnF fN base w (.slice (some ⟨g, 0, none⟩) n cap) l) (hi : l[i]? = some e) (hq : q = i * 5)
    (h : ∀ w', OwnF fN base w' (.slice (some ⟨g, 0, none⟩) n cap) (l.set i e') → w.grownBy w' (some g) → wpList Try.prog ops Q rest (a.put o.dst undef) w') : wpList Try.prog ops Q (o :: rest) a w :=
  wpList_plain hgd fun _ hK => by
    subst hq
    have ht : w.there g (i * 5) e'.cs.length := own_there okN hown hi
    have hil : i < l.length := (List.getElem?_eq_some_iff.1 hi).1
    have s0 := hown.store okN hi (j := 0) (x' := ⟨e'.p, e.t, e.m⟩) (u := .bool e'.p) (by decide) rfl
    have s1 := s0.1.store okN (i := i) (x := ⟨e'.p, e.t, e.m⟩) (by simp [hil]) (j := 1) (x' := ⟨e'.p, e'.t, e.m⟩) (u := .int .i64 e'.t) (by decide) rfl
    have s2 := s1.1.store okN (i := i) (x := ⟨e'.p, e'.t, e.m⟩) (by simp [hil]) (j := 2) (x' := ⟨e'.p, e'.t, ⟨e'.m.t, e.m.k, e.m.v⟩⟩) (u := .int .i64 e'.m.t) (by decide) rfl
    have s3 := s2.1.store okN (i := i) (x := ⟨e'.p, e'.t, ⟨e'.m.t, e.m.k, e.m.v⟩⟩) (by simp [hil]) (j := 3) (x' := ⟨e'.p, e'.t, ⟨e'.m.t, e'.m.k, e.m.v⟩⟩) (u := .int .i64 e'.m.k) (by decide) rfl
    have s4 := s3.1.store okN (i := i) (x := ⟨e'.p, e'.t, ⟨e'.m.t, e'.m.k, e.m.v⟩⟩) (by simp [hil]) (j := 4) (x' := e') (u := .int .i64 e'.m.v) (by decide) rfl
    have hset : ((((l.set i ⟨e'.p, e.t, e.m⟩).set i ⟨e'.p, e'.t, e.m⟩).set i ⟨e'.p, e'.t, ⟨e'.m.t, e.m.k, e.m.v⟩⟩).set i ⟨e'.p, e'.t, ⟨e'.m.t, e'.m.k, e.m.v⟩⟩).set i e' = l.set i e' := by simp
    unfold Oper.wp execOp
    simp only [ho, hx, hy, Instr.storeAt, Instr.sureAddr, Sem.run_bind, Sem.run_pure, Result.andThen_ok, run_store_in (P := Try.prog) w g (i * 5) 30 e'.val e'.cs rfl ht info_nt (by simp [Nt.cs, Value.oneCell'])]
    exact hK _ _ (h _ (hset ▸ s4.1) (grown_trans (grown_trans (grown_trans (grown_trans s0.2 s1.2) s2.2) s3.2) s4.2))
theorem toNote_any (n : Nt) (w : World) : Calls Try.prog 22 #[n.val] w fun e w' => e = .returned n.val ∧ Below w.heap.size w w' := by
  obtain ⟨vv, hvv⟩ : ∃ vv, vv = n.val := ⟨_, rfl⟩
  rw [← hvv]
  go_enter Try.func22, Try.ntmps22
  go_wp2_with (first
    | (refine box_lnt rfl rfl hvv ?_; intro w1 r1 b1)
    | (refine al_nt' rfl rfl ?_; intro w2 r2 b2; have B2 := below_more b1 b2; have q2 := r1.below b2; have l2 := r2.lt)
    | (refine al_nt' rfl rfl ?_; intro w3 r3 b3; have B3 := below_more B2 b3; have q3 := q2.below b3; have p3 := r2.below b3; have l3 := r3.lt; have s1 := b1.size; have c30 : w3.cell? ⟨w.heap.size, 0, none⟩ = some (.bool n.p) := q3.cell 0)
    | (refine st_ntp rfl rfl rfl rfl r3 ?_; rintro w4 r4 o4 -; have q4 := q3.onto o4 (by omega); have p4 := p3.onto o4 (by omega); have B4 := below_onto B3 o4 (by omega); have c41 : w4.cell? ⟨w.heap.size, 1, none⟩ = some (.int .i64 n.t) := q4.cell 1)
    | (refine st_ntt rfl rfl rfl rfl r4 ?_; rintro w5 r5 o5 -; have q5 := q4.onto o5 (by omega); have p5 := p4.onto o5 (by omega); have B5 := below_onto B4 o5 (by omega); have l5 := r5.lt; have k5 := p5.lt)
    | (refine ld_lntm rfl rfl rfl q5 ?_)
    | (go_at_call 40; refine (toMsg_any _ _).mono ?_; rintro e w6 ⟨rfl, b6⟩; have r6 : NtRow w6 w2.heap.size ⟨n.p, n.t, Nt.nul.m⟩ := r5.below b6; have p6 := p5.below b6; have B6 := below_more B5 b6)
    | (refine st_ntm rfl rfl rfl rfl r6 ?_; rintro w7 r7 o7 -; have p7 : NtRow w7 w1.heap.size Nt.nul := p6.onto o7 (by omega); have B7 := below_onto B6 o7 (by omega))
    | (refine ld_nt (n := n) rfl rfl rfl r7 ?_)
    | (refine st_ntv (m := n) rfl rfl rfl rfl p7 ?_; rintro w8 r8 o8 -; have B8 := below_onto B7 o8 (by omega)))
  exact ret_row rfl rfl r8 Try.underlying30 rfl info_nt rfl ⟨rfl, B8⟩
theorem eqNote_same (n : Nt) (w : World) : Calls Try.prog 28 #[n.val, n.val] w fun e w' => e = .returned (.bool true) ∧ Below w.heap.size w w' := by
  obtain ⟨vv, hvv⟩ : ∃ vv, vv = n.val := ⟨_, rfl⟩
  obtain ⟨uu, huu⟩ : ∃ uu, uu = n.val := ⟨_, rfl⟩
  have hb : (n.p != n.p) = false := by simp
  have ht : (n.t != n.t) = false := by simp
  show Calls Try.prog 28 #[n.val, n.val] w _
  generalize hA : (#[n.val, n.val] : Array Value) = A
  have hA' : A = #[vv, uu] := by rw [← hA, hvv, huu]
  subst hA'
  clear hA
  go_enter Try.func28, Try.ntmps28
  go_wp2_with (first
    | (refine box_nt rfl rfl hvv ?_; intro w1 r1 b1)
    | (refine box_nt rfl rfl huu ?_; intro w2 r2 b2; have q2 := r1.below b2; have B2 := below_more b1 b2; have c0 : w2.cell? ⟨w.heap.size, 0, none⟩ = some (.bool n.p) := q2.cell 0; have c1 : w2.cell? ⟨w.heap.size, 1, none⟩ = some (.int .i64 n.t) := q2.cell 1; have d0 : w2.cell? ⟨w1.heap.size, 0, none⟩ = some (.bool n.p) := r2.cell 0; have d1 : w2.cell? ⟨w1.heap.size, 1, none⟩ = some (.int .i64 n.t) := r2.cell 1)
    | (refine ld_ntm rfl rfl rfl q2 ?_)
    | (refine ld_ntm rfl rfl rfl r2 ?_)
    | (go_at_call 46; refine (eqMsg_same _ _).mono ?_; rintro e w3 ⟨rfl, b3⟩))
  go_ret
  exact ⟨rfl, below_more B2 b3⟩
theorem szNoteS_any (v : Value) (l : List Nt) (left : Int) (w : World) (h : SlF fLN w v l) (hl : 0 ≤ left ∧ left ≤ 1048576) :
    Calls Try.prog 41 #[v, .int .i64 left] w fun e w' => e = .returned (.int .i64 (if left < l.length then -1 else left - l.length)) ∧ w' = w := by
  obtain ⟨a, cap, rfl, -, hlc, hcm, -⟩ := h
  unfold maxLen at hcm
  by_cases hh : left < (l.length : Int)
  · rw [if_pos hh]
    go_enter Try.func41, Try.ntmps41
    go_wp2
    go_ret
    exact ⟨rfl, rfl⟩
  · rw [if_neg hh]
    go_enter Try.func41, Try.ntmps41
    go_wp2
    go_ret
    exact ⟨rfl, rfl⟩
theorem set5_step (l : List Nt) (k : Nat) (h : k < l.length) : (l.take k ++ List.replicate (l.length - k) Nt.nul).set k (Nt.at' l k) = l.take (k + 1) ++ List.replicate (l.length - (k + 1)) Nt.nul := by
  have e : l.length - k = (l.length - (k + 1)) + 1 := by omega
  rw [e, List.replicate_succ, List.set_append_right _ _ (by simp; omega), List.take_succ_eq_append_getElem h]
  have h1 : (l.take k).length = k := by simp; omega
  have h2 : Nt.at' l k = l[k] := by
    unfold Nt.at'
    simp [List.getD_eq_getElem?_getD, List.getElem?_eq_getElem h]
  rw [h1, Nat.sub_self, List.set_cons_zero, h2, List.append_assoc]
  rfl
theorem toNoteS_any (v : Value) (l : List Nt) (w : World) (h : SlF fLN w v l) (hb : l.length ≤ 4000000) :
    Calls Try.prog 42 #[v] w fun e w' => ∃ v', e = .returned v' ∧ OwnF fN w.heap.size w' v' l ∧ Below w.heap.size w w' := by
  have HS : Hid (SlF fLN w v l) := h
  obtain ⟨a, cap, rfl, -, hlc, hcm, -⟩ := h
  unfold maxLen at hcm
  go_enter Try.func42, Try.ntmps42
  go_wp2_with (at_make; refine makeF okN rfl (.tmp 6) (.tmp 6) rfl w.heap.size l.length _ rfl rfl rfl (by omega) (Nat.le_refl _) ?_; intro w1 ho hg; have HO : Hid (OwnF fN w.heap.size w1 (.slice (some ⟨w.heap.size, 0, none⟩) l.length l.length) (l.take 0 ++ List.replicate (l.length - 0) Nt.nul) ∧ Below w.heap.size w w1) := ⟨by rw [show l.take 0 ++ List.replicate (l.length - 0) Nt.nul = List.replicate l.length fN.z by simp [fN]]; exact ho, (Below.refl _ _).grown hg (Nat.le_refl _) (by simp)⟩; clear ho hg)
  go_loopw [4] (fun i wr => ∃ k : Nat, k ≤ l.length ∧ i = .int .i64 k ∧ OwnF fN w.heap.size wr (.slice (some ⟨w.heap.size, 0, none⟩) l.length l.length) (l.take k ++ List.replicate (l.length - k) Nt.nul) ∧ Below w.heap.size w wr) (fun i _ => l.length - (intOf i).toNat)
  case atStart => exact ⟨0, Nat.zero_le _, rfl, HO.out.1, HO.out.2⟩
  case round =>
    obtain ⟨k, hk, rfl, ho, hbw⟩ := hrel
    have HO2 : Hid (OwnF fN w.heap.size wr (.slice (some ⟨w.heap.size, 0, none⟩) l.length l.length) (l.take k ++ List.replicate (l.length - k) Nt.nul)) := ho
    have HB : Hid (Below w.heap.size w wr) := hbw
    by_cases hlt : k < l.length
    · obtain ⟨b, off, c, e, -, -, -⟩ := HS.out.shape (by omega)
      simp only [Value.slice.injEq] at e
      obtain ⟨rfl, -, rfl⟩ := e
      have hsl := HS.out.below hbw
      clear ho hbw
      go_wp2_with (first
        | (refine ixF okLN (r := k) rfl rfl rfl rfl hlt ?_)
        | (refine elF okLN rfl rfl rfl (hsl.range okLN (atN hlt)) ?_)
        | (go_at_call 22; refine (toNote_any (Nt.at' l k) _).mono ?_; rintro e w2 ⟨rfl, hb2⟩; have ho2 := HO2.out.below hb2; have hB2 := HB.out.trans (hb2.mono HB.out.size))
        | (refine ixF okN (r := k) rfl rfl rfl rfl hlt ?_)
        | (refine stNt (e' := Nt.at' l k) rfl rfl rfl rfl ho2 (atN (by simp; omega)) (Nat.zero_add _) ?_; rintro w3 ho3 hg3; have hB3 := hB2.grown hg3 hB2.size (by intro q hq; cases hq; exact Nat.le_refl _)))
      go_roundw
      case rel => exact ⟨k + 1, by omega, by go_num, by rw [← set5_step l k hlt]; exact ho3, hB3⟩
      case measure => simp [intOf]; omega
    · clear ho hbw
      go_wp2
      go_ret
      have e : k = l.length := by omega
      subst e
      exact ⟨_, rfl, by simpa using HO2.out, HB.out⟩
/-- Two lists of notes that read alike, by a call that writes nothing old. -/
structure GiiN (f : Fl Nt) (w : World) (v u : Value) (l : List Nt) (W : World) : Prop where
  sl : SlF f W v l
  su : SlF f W u l
  bel : Below w.heap.size w W
theorem GiiN.below {f : Fl Nt} {w W W' : World} {v u : Value} {l : List Nt} (h : GiiN f w v u l W) (hb : Below W.heap.size W W') : GiiN f w v u l W' := ⟨h.sl.below hb, h.su.below hb, below_more h.bel hb⟩
theorem GiiN.drew {f : Fl Nt} {w W : World} {v u : Value} {l : List Nt} (h : GiiN f w v u l W) : GiiN f w v u l W.drew := h.below (drew_below (n := 1) rfl)
theorem eqNoteS_same (v u : Value) (l : List Nt) (w : World) (h1 : SlF fN w v l) (h2 : SlF fN w u l) :
    Calls Try.prog 43 #[v, u] w fun e w' => e = .returned (.bool true) ∧ Below w.heap.size w w' := by
  have hG : GiiN fN w v u l w := ⟨h1, h2, Below.refl _ _⟩
  obtain ⟨a, c, rfl, -, hlc, hcm, -⟩ := h1
  obtain ⟨a2, c2, rfl, -, hlc2, hcm2, -⟩ := h2
  unfold maxLen at hcm hcm2
  have hll : ((l.length : Int) != (l.length : Int)) = false := by simp
  go_enter Try.func43, Try.ntmps43
  go_wp2_with fail
  go_loopw [5] (fun i wr => ∃ k : Nat, k ≤ l.length ∧ i = .int .i64 k ∧ GiiN fN w (.slice a l.length c) (.slice a2 l.length c2) l wr) (fun i _ => l.length - (intOf i).toNat)
  case atStart => exact ⟨0, Nat.zero_le _, rfl, hG⟩
  case round =>
    clear hG
    obtain ⟨k, hk, rfl, hG⟩ := hrel
    by_cases hlt : k < l.length
    · obtain ⟨b, off, c', e, -, -, -⟩ := hG.sl.shape (by omega)
      simp only [Value.slice.injEq] at e
      obtain ⟨rfl, -, rfl⟩ := e
      obtain ⟨b2, off2, c2', e, -, -, -⟩ := hG.su.shape (by omega)
      simp only [Value.slice.injEq] at e
      obtain ⟨rfl, -, rfl⟩ := e
      go_wp2_with fail
      refine region_known (by kernel_rfl) (by kernel_rfl) 0 (by decide) (by kernel_rfl) (fun _ W => GiiN fN w (.slice (some ⟨b, off, none⟩) l.length c) (.slice (some ⟨b2, off2, none⟩) l.length c2) l W) [.slice (some ⟨b, off, none⟩) l.length c, .int .i64 (k : Int), .pointer (some ⟨b, off + k * 5, none⟩), (Nt.at' l k).val, .slice (some ⟨b2, off2, none⟩) l.length c2, .int .i64 (k : Int), .pointer (some ⟨b2, off2 + k * 5, none⟩), (Nt.at' l k).val, .bool true, .bool false] hG.drew ?step ?done
      case step =>
        intro L ix o' A W hj hI hL hd
        have hin : ix < 10 := by
          by_cases hl : ix < 10
          · exact hl
          · simp [hl] at hj
        have hsz : A.tmps.size = 27 := hI.size
        have hg := hI.g
        rcases ix with _ | ix
        · obtain rfl := (Option.some.inj hj).symm
          have e0 : A.eval (.tmp 0) = .slice (some ⟨b, off, none⟩) l.length c := hI.old 0 (by kernel_rfl)
          exact at_op rfl rfl (move_op rfl ⟨_, rfl, e0, hg⟩)
        rcases ix with _ | ix
        · obtain rfl := (Option.some.inj hj).symm
          have e0 : A.eval (.tmp 5) = .int .i64 (k : Int) := hI.old 5 (by kernel_rfl)
          exact at_op rfl rfl (move_op rfl ⟨_, rfl, e0, hg⟩)
        rcases ix with _ | ix
        · obtain rfl := (Option.some.inj hj).symm
          have e0 : A.eval (.tmp 17) = .slice (some ⟨b, off, none⟩) l.length c := hI.val hd 0 17 rfl rfl (by kernel_rfl)
          have e1 : A.eval (.tmp 18) = .int .i64 (k : Int) := hI.val hd 1 18 rfl rfl (by kernel_rfl)
          exact at_op rfl rfl (ixF_op okN rfl e0 e1 (by omega) ⟨_, rfl, rfl, hg⟩)
        rcases ix with _ | ix
        · obtain rfl := (Option.some.inj hj).symm
          have e0 : A.eval (.tmp 19) = .pointer (some ⟨b, off + k * 5, none⟩) := hI.val hd 2 19 rfl rfl (by kernel_rfl)
          exact at_op rfl rfl (elF_op okN rfl e0 (hg.sl.range okN (atN (by omega))) ⟨_, rfl, rfl, hg⟩)
        rcases ix with _ | ix
        · obtain rfl := (Option.some.inj hj).symm
          have e0 : A.eval (.tmp 1) = .slice (some ⟨b2, off2, none⟩) l.length c2 := hI.old 1 (by kernel_rfl)
          exact at_op rfl rfl (move_op rfl ⟨_, rfl, e0, hg⟩)
        rcases ix with _ | ix
        · obtain rfl := (Option.some.inj hj).symm
          have e0 : A.eval (.tmp 5) = .int .i64 (k : Int) := hI.old 5 (by kernel_rfl)
          exact at_op rfl rfl (move_op rfl ⟨_, rfl, e0, hg⟩)
        rcases ix with _ | ix
        · obtain rfl := (Option.some.inj hj).symm
          have e0 : A.eval (.tmp 21) = .slice (some ⟨b2, off2, none⟩) l.length c2 := hI.val hd 4 21 rfl rfl (by kernel_rfl)
          have e1 : A.eval (.tmp 22) = .int .i64 (k : Int) := hI.val hd 5 22 rfl rfl (by kernel_rfl)
          exact at_op rfl rfl (ixF_op okN rfl e0 e1 (by omega) ⟨_, rfl, rfl, hg⟩)
        rcases ix with _ | ix
        · obtain rfl := (Option.some.inj hj).symm
          have e0 : A.eval (.tmp 23) = .pointer (some ⟨b2, off2 + k * 5, none⟩) := hI.val hd 6 23 rfl rfl (by kernel_rfl)
          exact at_op rfl rfl (elF_op okN rfl e0 (hg.su.range okN (atN (by omega))) ⟨_, rfl, rfl, hg⟩)
        rcases ix with _ | ix
        · obtain rfl := (Option.some.inj hj).symm
          have e0 : A.eval (.tmp 20) = (Nt.at' l k).val := hI.val hd 3 20 rfl rfl (by kernel_rfl)
          have e1 : A.eval (.tmp 24) = (Nt.at' l k).val := hI.val hd 7 24 rfl rfl (by kernel_rfl)
          refine at_op rfl rfl (call_op rfl Try.func28 (by kernel_rfl) (by kernel_rfl) ?_)
          simp only [List.map_cons, List.map_nil, e0, e1]
          refine (eqNote_same _ _).mono ?_
          rintro e W1 ⟨rfl, hb⟩
          exact ⟨_, rfl, _, rfl, rfl, hg.below hb⟩
        rcases ix with _ | ix
        · obtain rfl := (Option.some.inj hj).symm
          have e0 : A.eval (.tmp 25) = .bool true := hI.val hd 8 25 rfl rfl (by kernel_rfl)
          refine at_op rfl rfl (val_op (v := .bool false) ?_ ⟨_, rfl, rfl, hg⟩)
          unfold execOp
          simp only [List.getElem_toArray, List.getElem_cons_zero, List.getElem_cons_succ, e0]
          simp [go_sem]
        omega
      case done =>
        intro A W hI
        have hg := hI.g
        have s26 : A.tmps.getD 26 undef = .bool false := hI.last 9 26 rfl
        have hA := hI.frame [17, 18, 19, 20, 21, 22, 23, 24, 25, 26] (by kernel_rfl)
        rw [hA]
        simp only [putAll, List.foldl_cons, List.foldl_nil, s26, Act.put, List.setIfInBounds_toArray, List.set_cons_zero, List.set_cons_succ]
        clear hA hI s26
        go_wp2
        go_roundw
        case rel => exact ⟨k + 1, by omega, by go_num, hg⟩
        case measure => simp [intOf]; omega
    · have hbel := hG.bel
      clear hG
      go_wp2
      go_ret
      exact ⟨rfl, hbel⟩
end Go.Proofs.Ytggfjghcgacdnaa.Mem
