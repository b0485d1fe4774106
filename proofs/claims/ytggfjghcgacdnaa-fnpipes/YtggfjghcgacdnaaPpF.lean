/-
  Pipes: the first note, of the model and of the program.
-/
import Derived.Test.YtggfjghcgacdnaaPpW
namespace Go.Proofs.Ytggfjghcgacdnaa.Mem
open Go.ChangeShapes Go.WideShapes Go.RowKit Base Num Slc Slf Rw Tmr Reg
set_option linter.unusedVariables false
set_option linter.unusedSimpArgs false
set_option maxRecDepth 20000

def ncs (n : Nt) : Array Value := #[.bool n.p, .int .i64 n.t, .int .i64 n.m.t, .int .i64 n.m.k, .int .i64 n.m.v]
theorem ncs_val (n : Nt) : n.val = .agg (ncs n) := rfl
theorem ncs_one (n : Nt) : (ncs n).all (·.oneCell') = true := by simp [ncs, Value.oneCell']
section
variable {ops : Array Oper} {rest : List Oper} {o : Oper} {a : Act} {w : World} {Q : Exit → Act → World → Prop} {p q : Operand} {g k : Nat} {v x y : Value} {n m : Nt}
theorem al_nt (hgd : o.guard = none) (ho : o.op = .alloc 30)
    (h : ∀ w', Row w' w.heap.size (ncs Nt.nul) 30 → Below w.heap.size w w' → wpList Try.prog ops Q rest (a.put o.dst (.pointer (some ⟨w.heap.size, 0, none⟩))) w') : wpList Try.prog ops Q (o :: rest) a w :=
  wpList_plain hgd fun _ hK => by
    have e : (execOp a.eval o).run Try.prog w = .ok (.value (.pointer (some ⟨w.heap.size, 0, none⟩))) (w.alloc (.cells (ncs Nt.nul) 30)) := by
      unfold execOp
      rw [ho]
      kernel_rfl
    unfold Oper.wp
    rw [e]
    exact hK _ _ (h _ (Row.new _ _ _) ((Below.refl _ _).alloc (Nat.le_refl _) _))
theorem st_nt (hgd : o.guard = none) (ho : o.op = .store 30 p q) (hx : a.eval p = .pointer (some ⟨g, 0, none⟩)) (hy : a.eval q = n.val) (hr : Row w g (ncs m) 30)
    (h : ∀ w', Row w' g (ncs n) 30 → Onto g w w' → w'.heap.size = w.heap.size → wpList Try.prog ops Q rest (a.put o.dst undef) w') : wpList Try.prog ops Q (o :: rest) a w :=
  st_row hgd _ p q ho hx hy hr info_nt rfl (ncs_one n) h
theorem ret_ppn {fn : Func} {R : Ending → World → Prop} {a : Act} {w : World} {r s u : Tmp} (h : fn.results = #[.cell r 26, .cell s 30, .tmp u]) {g g' : Nat} {T : TypeId} {x y : Value}
    (hp : a.tmps.getD r undef = .pointer (some ⟨g, 0, none⟩)) (hr : Row w g #[x, y] T) (hs : a.tmps.getD s undef = .pointer (some ⟨g', 0, none⟩)) (hn : Row w g' (ncs n) 30) (hde : a.defers = []) {v : Value} (hv : a.tmps.getD u undef = v) (hR : R (.returned (.tuple #[.agg #[x, y], n.val, v])) w) : bodyPost Try.prog fn R .ret a w := by
  subst hv
  refine bodyPost_ret ?_ hde hR
  have hp' : a.tmps[r]?.getD undef = .pointer (some ⟨g, 0, none⟩) := by simpa using hp
  have hs' : a.tmps[s]?.getD undef = .pointer (some ⟨g', 0, none⟩) := by simpa using hs
  simp [results, h, hp', hs', asAddr, run_loadVar_row w g T 26 #[x, y] (0, 0) _ hr.row Try.underlying26 rfl info_pp, run_loadVar_row w g' 30 30 (ncs n) (0, 0) _ hn.row Try.underlying30 rfl info_nt, ncs_val]
end
/-- What stands while the first note is taken: has the pipe been laid (L), has the note (M). -/
structure Gpf (B : TypeId) (w : World) (g1 g2 g3 n1 : Nat) (c : Int) (u : Value) (n : Nt) (l : List Nt) (L M : Bool) (W : World) : Prop where
  arg : Row W g1 #[.int .i64 c, u] 26
  sl : SlF fN W u (n :: l)
  bel : Below w.heap.size w W
  sz : n1 ≤ W.heap.size
  pip : if L then ∃ v, Row W g2 #[.int .i64 c, v] 26 ∧ OwnA B fN n1 W v l else Row W g2 #[.int .i64 0, .slice none 0 0] 26
  nte : Row W g3 (ncs (if M then n else Nt.nul)) 30
theorem Gpf.below {B : TypeId} {w W W' : World} {g1 g2 g3 n1 : Nat} {c : Int} {u : Value} {n : Nt} {l : List Nt} {L M : Bool} (h : Gpf B w g1 g2 g3 n1 c u n l L M W) (hb : Below W.heap.size W W') : Gpf B w g1 g2 g3 n1 c u n l L M W' := by
  refine ⟨h.arg.below hb, h.sl.below hb, below_more h.bel hb, Nat.le_trans h.sz hb.size, ?_, h.nte.below hb⟩
  have := h.pip
  cases L
  · exact Row.below this hb
  · obtain ⟨v, q1, q2⟩ := this
    exact ⟨v, q1.below hb, q2.below hb⟩
/-- A list that is read, whose block, if it has elements, is among the first s. -/
def KRd (s : Nat) (l : List Nt) (v : Value) (W : World) : Prop := SlF fN W v l ∧ (0 < l.length → ∀ k, v.ownBlock = some k → k < s ∧ k < W.heap.size)
/-- The same elsewhere than in the blocks g2 and g3. -/
structure But2 (g2 g3 : Nat) (W W' : World) : Prop where
  size : W.heap.size ≤ W'.heap.size
  block : ∀ k, k ≠ g2 → k ≠ g3 → k < W.heap.size → W'.heap[k]? = W.heap[k]?
theorem KRd.but {s g2 g3 : Nat} {l : List Nt} {v : Value} {W W' : World} (h : KRd s l v W) (hb : But2 g2 g3 W W') (h2 : s ≤ g2) (h3 : s ≤ g3) : KRd s l v W' :=
  ⟨h.1.moved hb.size fun h0 k hk => by have := h.2 h0 k hk; exact hb.block k (by omega) (by omega) this.2, fun h0 k hk => ⟨(h.2 h0 k hk).1, Nat.lt_of_lt_of_le (h.2 h0 k hk).2 hb.size⟩⟩
def kPfS (s n1 g1 b off : Nat) (c : Int) (u : Value) (n : Nt) (l : List Nt) : List (Value → World → Prop) :=
  [KIs (.pointer (some ⟨g1, 0, none⟩)), KIs (.int .i64 c), fun v W => ∃ b, v = .slice (some ⟨b, 0, none⟩) 0 0 ∧ OwnF fN n1 W v [], KIs (.pointer (some ⟨g1, 1, none⟩)), KIs u, KRd s l, fun v W => OwnF fN n1 W v l, fun v W => ∃ v', v = .agg #[.int .i64 c, v'] ∧ OwnA fN.T fN n1 W v' l, KIs (.pointer (some ⟨g1, 1, none⟩)), KIs u, KIs (.pointer (some ⟨b, off, none⟩)), KIs n.val, KAny, KAny, KIs (.bool true)]
theorem kPfS_keep {s n1 g1 g2 g3 b off : Nat} {c : Int} {u : Value} {n : Nt} {l : List Nt} (j : Nat) (v : Value) (W W' : World) (h : (kPfS s n1 g1 b off c u n l).getD j KAny v W) (hb : But2 g2 g3 W W') (h2 : s ≤ g2) (h3 : s ≤ g3) (n2 : g2 < n1) (n3 : g3 < n1) : (kPfS s n1 g1 b off c u n l).getD j KAny v W' := by
  have key : ∀ q, n1 ≤ q → q < W.heap.size → W'.heap[q]? = W.heap[q]? := fun q h1 h2 => hb.block q (by omega) (by omega) h2
  rcases j with _ | _ | _ | _ | _ | _ | _ | _ | _ | _ | _ | _ | _ | _ | _ | j
  · exact h
  · exact h
  · obtain ⟨b, e, h1⟩ := h; exact ⟨b, e, h1.kept fun q hq => key q (h1.lt q hq).1 (h1.lt q hq).2⟩
  · exact h
  · exact h
  · exact h.but hb h2 h3
  · exact h.kept fun q hq => key q (h.lt q hq).1 (h.lt q hq).2
  · obtain ⟨x, e, h1⟩ := h; exact ⟨x, e, h1.kept fun q hq => key q (h1.lt q hq).1 (h1.lt q hq).2⟩
  · exact h
  · exact h
  · exact h
  · exact h
  · exact h
  · exact h
  · exact h
  · exact h
set_option maxHeartbeats 1000000 in
theorem pipeFirst_spec (v : Value) (p : Pp) (w : World) (h : PpSl w v p) :
    Calls Try.prog 14 #[v] w fun e w' => ∃ v', e = .returned (.tuple #[v', (pipeFirst p).2.1.val, .bool (pipeFirst p).2.2]) ∧ PpOwn fN.T w.heap.size w' v' (pipeFirst p).1 ∧ Below w.heap.size w w' := by
  obtain ⟨u, rfl, hu⟩ := h
  obtain ⟨c, l⟩ := p
  have hu : SlF fN w u l := hu
  obtain ⟨vv, hvv⟩ : ∃ vv, vv = Value.agg #[.int .i64 c, u] := ⟨_, rfl⟩
  show Calls Try.prog 14 #[.agg #[.int .i64 c, u]] w _
  rw [← hvv]
  have hone := hu.one
  cases hok : Pp.ok ⟨c, l⟩
  · have HR : Hid (pipeFirst ⟨c, l⟩ = (Pp.nul, Nt.nul, false)) := show _ = _ by unfold pipeFirst; rw [hok]; rfl
    rw [HR.out]
    go_enter Try.func14, Try.ntmps14
    go_wp2_with (first
      | (refine box_pp rfl rfl hvv ?_; intro w1 r1 b1)
      | (refine al_pp rfl rfl ?_; intro w2 r2 b2; have B2 := below_more b1 b2; have q2 := r1.below b2; have l2 := r2.lt)
      | (refine al_nt rfl rfl ?_; intro w3 r3 b3; have B3 := below_more B2 b3; have q3 := q2.below b3; have p3 := r2.below b3; have l3 := r3.lt)
      | (refine ld_pp rfl rfl rfl q3 ?_)
      | (go_at_call 19; refine (pipeOk_spec _ ⟨c, l⟩ _ ⟨_, rfl, hu.below B3⟩).mono ?_; rintro e w4 ⟨rfl, b4⟩; rw [hok]; have B4 := below_more B3 b4; have p4 := p3.below b4; have n4 := r3.below b4)
      | (refine st_pp rfl rfl rfl rfl p4 rfl rfl ?_; rintro w5 r5 o5 -; have B5 := below_onto B4 o5 (by have := b1.size; omega); have n5 := n4.onto o5 (by omega))
      | (refine st_nt (n := Nt.nul) rfl rfl rfl rfl n5 ?_; rintro w6 r6 o6 -; have B6 := below_onto B5 o6 (by have := B2.size; omega); have r56 := r5.onto o6 (by omega)))
    exact ret_ppn rfl rfl r56 rfl r6 rfl rfl ⟨_, rfl, pp_nul _ _ _, B6⟩
  have h4 := Pp.ok_parts hok
  obtain ⟨k1, k2, k3⟩ : 1 ≤ c ∧ c ≤ 8 ∧ (l.length : Int) ≤ c := ⟨h4.1, h4.2.1, h4.2.2.1⟩
  clear h4
  obtain ⟨kk, rfl⟩ : ∃ kk : Nat, c = (kk : Int) := ⟨c.toNat, by omega⟩
  rcases l with _ | ⟨n, l⟩
  · have HR : Hid (pipeFirst ⟨kk, []⟩ = (⟨kk, []⟩, Nt.nul, false)) := show _ = _ by unfold pipeFirst; rw [hok]; rfl
    rw [HR.out]
    obtain ⟨a, cp, rfl, -, hlc, hcm, -⟩ := id hu
    unfold maxLen at hcm
    obtain ⟨l, hl⟩ : ∃ l : List Nt, l = [] := ⟨_, rfl⟩
    rw [← hl] at hu hok hvv hlc k3 ⊢
    have h0 : l.length = 0 := by rw [hl]; rfl
    have H0 : Hid (l.length = 0) := h0
    have hz : ((l.length : Int) == 0) = true := by simp [h0]
    have hz2 : decide (l.length = 0) = true := by simp [h0]
    have HL : Hid (l = []) := hl
    clear h0 hl
    go_enter Try.func14, Try.ntmps14
    go_wp2_with (first
      | (refine box_pp rfl rfl hvv ?_; intro w1 r1 b1)
      | (refine al_pp rfl rfl ?_; intro w2 r2 b2; have B2 := below_more b1 b2; have q2 := r1.below b2; have l2 := r2.lt)
      | (refine al_nt rfl rfl ?_; intro w3 r3 b3; have B3 := below_more B2 b3; have q3 := q2.below b3; have p3 := r2.below b3; have l3 := r3.lt)
      | (refine ld_pp rfl rfl rfl q3 ?_)
      | (go_at_call 19; refine (pipeOk_spec _ ⟨kk, l⟩ _ ⟨_, rfl, hu.below B3⟩).mono ?_; rintro e w4 ⟨rfl, b4⟩; rw [hok]; have B4 := below_more B3 b4; have q4 := q3.below b4; have p4 := p3.below b4; have n4 := r3.below b4; have l4 := n4.lt; have c40 : w4.cell? ⟨w.heap.size, 0, none⟩ = some (.int .i64 kk) := q4.cell 0; have c41 : w4.cell? ⟨w.heap.size, 1, none⟩ = some (.slice a l.length cp) := q4.cell 1)
      | (refine ld_pp rfl rfl rfl q4 ?_)
      | (go_at_call 34; refine (l12Copy_spec _ ⟨kk, l⟩ _ ⟨_, rfl, hu.below B4⟩ (by show l.length ≤ 1000; omega)).mono ?_; rintro e w5 ⟨u', rfl, ho5, b5⟩; have B5 := below_more B4 b5; have p5 := p4.below b5; have n5 := n4.below b5; have s5 := b5.size; have o5 := ho5.one okN)
      | (refine st_pp rfl rfl rfl rfl p5 rfl o5 ?_; rintro w6 r6 o6 -; have B6 := below_onto B5 o6 (by have := b1.size; omega); have n6 := n5.onto o6 (by omega); have ho6 := ho5.onto o6 (fun e => by have := (ho5.lt _ e).1; omega))
      | (refine st_nt (n := Nt.nul) rfl rfl rfl rfl n6 ?_; rintro w7 r7 o7 -; have B7 := below_onto B6 o7 (by have := B2.size; omega); have r67 := r6.onto o7 (by omega); have ho7 := ho6.onto o7 (fun e => by have := (ho5.lt _ e).1; omega)))
    exact ret_ppn rfl rfl r67 rfl r7 rfl rfl ⟨_, rfl, ⟨_, rfl, OwnA.mono ho7.toA (by have := B4.size; omega)⟩, B7⟩
  · have HR : Hid (pipeFirst ⟨kk, n :: l⟩ = (⟨kk, l⟩, n, true)) := show _ = _ by unfold pipeFirst; rw [hok]; rfl
    rw [HR.out]
    obtain ⟨b, off, cp, hus, hbl, hlc, hcm⟩ := hu.shape (by simp)
    have HU : Hid (u = .slice (some ⟨b, off, none⟩) (n :: l).length cp) := hus
    have hu0 : ∀ k, u.ownBlock = some k → k < w.heap.size := fun k hk => by rw [hus] at hk; cases hk; exact hbl
    obtain ⟨ln, hln⟩ : ∃ ln, ln = (n :: l).length := ⟨_, rfl⟩
    have hl1 : l.length + 1 ≤ ln := Nat.le_of_eq (by rw [hln]; rfl)
    have hl2 : ln ≤ l.length + 1 := Nat.le_of_eq (by rw [hln]; rfl)
    have HU2 : Hid (u = .slice (some ⟨b, off, none⟩) ln cp) := show _ = _ by rw [hus, hln]
    have k3' : (ln : Int) ≤ (kk : Int) := by rw [hln]; exact k3
    have hlc' : ln ≤ cp := by rw [hln]; exact hlc
    have hz : ((ln : Int) == 0) = false := by simp; omega
    have hz2 : decide (ln = 0) = false := by simp; omega
    clear hln hus k3 hlc
    unfold maxLen at hcm
    go_enter Try.func14, Try.ntmps14
    go_wp2_with (first
      | (refine box_pp rfl rfl hvv ?_; intro w1 r1 b1)
      | (refine al_pp rfl rfl ?_; intro w2 r2 b2; have B2 := below_more b1 b2; have q2 := r1.below b2; have l2 := r2.lt)
      | (refine al_nt rfl rfl ?_; intro w3 r3 b3; have B3 := below_more B2 b3; have q3 := q2.below b3; have p3 := r2.below b3; have l3 := r3.lt)
      | (refine ld_pp rfl rfl rfl q3 ?_)
      | (go_at_call 19; refine (pipeOk_spec _ ⟨kk, n :: l⟩ _ ⟨_, rfl, hu.below B3⟩).mono ?_; rintro e w4 ⟨rfl, b4⟩; rw [hok]; have B4 := below_more B3 b4; have q4 := q3.below b4; have p4 := p3.below b4; have n4 := r3.below b4; have l4 := n4.lt; have c40 : w4.cell? ⟨w.heap.size, 0, none⟩ = some (.int .i64 kk) := q4.cell 0; have c41 : w4.cell? ⟨w.heap.size, 1, none⟩ = some (.slice (some ⟨b, off, none⟩) ln cp) := (HU2.out ▸ q4.cell 1)))
    have l1 := r1.lt
    have s1 := b1.size
    have s2 := b2.size
    have s3 := b3.size
    have s4 := b4.size
    obtain ⟨n1, hn1⟩ : ∃ n1, w4.heap.size = n1 := ⟨_, rfl⟩
    have h0 : Gpf fN.T w w.heap.size w1.heap.size w2.heap.size n1 kk u n l false false w4 := ⟨q4, hu.below B4, B4, by omega, p4, n4⟩
    clear q4 p4 n4 c40 c41 r1 r2 r3 q2 q3 p3
    refine region_km (by kernel_rfl) (by kernel_rfl) (by kernel_rfl) (fun L W => Gpf fN.T w w.heap.size w1.heap.size w2.heap.size n1 kk u n l (L 12) (L 13) W) (fun j => (kPfS w.heap.size n1 w.heap.size b off kk u n l).getD j KAny) (fun L L' W hL h => by rw [← hL 12 (by decide), ← hL 13 (by decide)]; exact h) (h0.below (drew_below (n := 1) rfl)) ?step ?done
    case step =>
      intro L ix o A W hi hI hLi hd
      have hus := HU2.out
      have hin : ix < 15 := by
        by_cases hl : ix < 15
        · exact hl
        · simp [hl] at hi
      have hsz : A.tmps.size = 29 := hI.size
      have hg : Gpf fN.T w w.heap.size w1.heap.size w2.heap.size n1 kk u n l (L 12) (L 13) W := hI.j.1
      have go : ∀ {W'} , Below W.heap.size W W' → ∀ j v, (kPfS w.heap.size n1 w.heap.size b off kk u n l).getD j KAny v W → (kPfS w.heap.size n1 w.heap.size b off kk u n l).getD j KAny v W' := fun hb j v hk => kPfS_keep (g2 := w1.heap.size) (g3 := w2.heap.size) j v _ _ hk ⟨hb.size, fun k _ _ hp => hb.block k hp⟩ (by omega) (by omega) (by omega) (by omega)
      rcases ix with _ | _ | _ | _ | _ | _ | _ | _ | _ | _ | _ | _ | _ | _ | _ | ix
      · cases hi
        have e1 : A.eval (.tmp 1) = .pointer (some ⟨w.heap.size, 0, none⟩) := hI.old 1 (by kernel_rfl)
        refine at_op rfl rfl (val_op (v := .pointer (some ⟨w.heap.size, 0, none⟩)) ?_ ⟨_, rfl, by simpa using hg, fun _ _ h => h, fun _ => rfl⟩)
        unfold execOp
        simp only [List.getElem_toArray, List.getElem_cons_zero, List.getElem_cons_succ, e1]
        simp [go_sem]
      · cases hi
        have e1 : A.eval (.tmp 17) = .pointer (some ⟨w.heap.size, 0, none⟩) := hI.km hd 0 17 rfl rfl (by kernel_rfl)
        have c0 : W.cell? ⟨w.heap.size, 0, none⟩ = some (.int .i64 kk) := hg.arg.cell 0
        refine at_op rfl rfl (val_op (v := .int .i64 kk) ?_ ⟨_, rfl, by simpa using hg, fun _ _ h => h, fun _ => rfl⟩)
        unfold execOp
        simp only [List.getElem_toArray, List.getElem_cons_zero, List.getElem_cons_succ, e1]
        simp [go_sem, c0]
      · cases hi
        refine at_op rfl rfl (noneF_op okN rfl ?_)
        intro W' ho hb
        exact ⟨_, rfl, by simpa using hg.below hb, go hb, fun _ => ⟨_, rfl, ho.mono hg.sz⟩⟩
      · cases hi
        have e1 : A.eval (.tmp 1) = .pointer (some ⟨w.heap.size, 0, none⟩) := hI.old 1 (by kernel_rfl)
        refine at_op rfl rfl (val_op (v := .pointer (some ⟨w.heap.size, 1, none⟩)) ?_ ⟨_, rfl, by simpa using hg, fun _ _ h => h, fun _ => rfl⟩)
        unfold execOp
        simp only [List.getElem_toArray, List.getElem_cons_zero, List.getElem_cons_succ, e1]
        simp [go_sem]
      · cases hi
        have e1 : A.eval (.tmp 20) = .pointer (some ⟨w.heap.size, 1, none⟩) := hI.km hd 3 20 rfl rfl (by kernel_rfl)
        have c0 : W.cell? ⟨w.heap.size, 1, none⟩ = some (u) := hg.arg.cell 1
        refine at_op rfl rfl (val_op (v := u) ?_ ⟨_, rfl, by simpa using hg, fun _ _ h => h, fun _ => rfl⟩)
        unfold execOp
        simp only [List.getElem_toArray, List.getElem_cons_zero, List.getElem_cons_succ, e1]
        simp [go_sem, c0]
      · cases hi
        have e1 : A.eval (.tmp 21) = u := hI.km hd 4 21 rfl rfl (by kernel_rfl)
        refine at_op rfl rfl (dropF_op okN (r := 1) rfl (e1.trans hus) rfl (by omega) (by rw [← hus]; exact hg.sl) ?_)
        intro v' hs' ho'
        exact ⟨_, rfl, by simpa using hg, fun _ _ h => h, fun _ => ⟨hs', fun _ k hk => by rw [ho'] at hk; cases hk; exact ⟨hbl, Nat.lt_of_lt_of_le hbl hg.bel.size⟩⟩⟩
      · cases hi
        obtain ⟨b2, e1, h1⟩ : ∃ b2, A.eval (.tmp 19) = .slice (some ⟨b2, 0, none⟩) 0 0 ∧ OwnF fN n1 W (A.eval (.tmp 19)) [] := hI.km hd 2 19 rfl rfl (by kernel_rfl)
        have e2 : KRd w.heap.size l (A.eval (.tmp 22)) W := hI.km hd 5 22 rfl rfl (by kernel_rfl)
        rw [e1] at h1
        refine at_op rfl rfl (appZ_op okN rfl e1 h1 e2.1 (by omega) hg.sz ?_)
        intro v' W' ho hb
        exact ⟨_, rfl, by simpa using hg.below hb, go hb, fun _ => ho⟩
      · cases hi
        have e1 : A.eval (.tmp 18) = .int .i64 kk := hI.km hd 1 18 rfl rfl (by kernel_rfl)
        have h5 : OwnF fN n1 W (A.eval (.tmp 23)) l := hI.km hd 6 23 rfl rfl (by kernel_rfl)
        exact at_op rfl rfl (build_op (parts := [(0, .tmp 18), (1, .tmp 23)]) (vals := [(0, A.eval (.tmp 18)), (1, A.eval (.tmp 23))]) (cs := #[A.eval (.tmp 18), A.eval (.tmp 23)]) rfl rfl (built_pp _ _ (by rw [e1]; rfl) (h5.one okN)) ⟨_, rfl, by simpa using hg, fun _ _ h => h, fun _ => ⟨_, by rw [e1], h5.toA⟩⟩)
      · cases hi
        have e1 : A.eval (.tmp 1) = .pointer (some ⟨w.heap.size, 0, none⟩) := hI.old 1 (by kernel_rfl)
        refine at_op rfl rfl (val_op (v := .pointer (some ⟨w.heap.size, 1, none⟩)) ?_ ⟨_, rfl, by simpa using hg, fun _ _ h => h, fun _ => rfl⟩)
        unfold execOp
        simp only [List.getElem_toArray, List.getElem_cons_zero, List.getElem_cons_succ, e1]
        simp [go_sem]
      · cases hi
        have e1 : A.eval (.tmp 25) = .pointer (some ⟨w.heap.size, 1, none⟩) := hI.km hd 8 25 rfl rfl (by kernel_rfl)
        have c0 : W.cell? ⟨w.heap.size, 1, none⟩ = some (u) := hg.arg.cell 1
        refine at_op rfl rfl (val_op (v := u) ?_ ⟨_, rfl, by simpa using hg, fun _ _ h => h, fun _ => rfl⟩)
        unfold execOp
        simp only [List.getElem_toArray, List.getElem_cons_zero, List.getElem_cons_succ, e1]
        simp [go_sem, c0]
      · cases hi
        have e1 : A.eval (.tmp 26) = u := hI.km hd 9 26 rfl rfl (by kernel_rfl)
        exact at_op rfl rfl (ixF_op okN (r := 0) rfl (e1.trans hus) rfl (by omega) ⟨_, rfl, by simpa using hg, fun _ _ h => h, fun _ => by show _ = _; simp⟩)
      · cases hi
        have e1 : A.eval (.tmp 27) = .pointer (some ⟨b, off, none⟩) := hI.km hd 10 27 rfl rfl (by kernel_rfl)
        have hr : W.rangeAt b off (fN.F n) := by
          have := hg.sl
          rw [hus] at this
          have := this.range okN (i := 0) (x := n) rfl
          rwa [Nat.zero_mul, Nat.add_zero] at this
        exact at_op rfl rfl (elF_op okN rfl e1 hr ⟨_, rfl, by simpa using hg, fun _ _ h => h, fun _ => rfl⟩)
      · cases hi
        have e1 : A.eval (.tmp 2) = .pointer (some ⟨w1.heap.size, 0, none⟩) := hI.old 2 (by kernel_rfl)
        obtain ⟨v', e2, h6⟩ : ∃ v', A.eval (.tmp 24) = .agg #[.int .i64 kk, v'] ∧ OwnA fN.T fN n1 W v' l := hI.km hd 7 24 rfl rfl (by kernel_rfl)
        have hr : Row W w1.heap.size #[.int .i64 0, .slice none 0 0] 26 := by have := hg.pip; rw [hLi] at this; exact this
        have o1 := h6.one okN
        unfold Value.oneCell' at o1
        have hon : Onto w1.heap.size W (W.setRow w1.heap.size #[.int .i64 kk, v']) := ⟨rfl, rfl, rfl, by simp, fun k hk _ => setRow_other W w1.heap.size k _ hk⟩
        refine at_op rfl rfl (wp_store_row _ _ _ rfl w1.heap.size #[.int .i64 kk, v'] e1 e2 _ _ hr.row info_pp rfl (by simp only [List.all_toArray, List.all_cons, List.all_nil, Value.oneCell', o1, Bool.and_true]) ⟨_, rfl, ⟨hg.arg.onto hon (by omega), ?_, below_onto hg.bel hon (by omega), Nat.le_trans hg.sz hon.size, ?_, ?_⟩, fun j v hk => kPfS_keep (g2 := w1.heap.size) (g3 := w2.heap.size) j v _ _ hk ⟨hon.size, fun k h1 _ h2 => hon.block k h1 h2⟩ (by omega) (by omega) (by omega) (by omega), fun h => absurd rfl h⟩)
        · exact hg.sl.moved hon.size fun h0 k hk => hon.block k (by have := hu0 k hk; omega) (hg.sl.lt h0 k hk)
        · simp only [BEq.rfl, Bool.or_true, if_true]
          exact ⟨v', Row.of (setRow_heap W w1.heap.size _ _ _ _ hr.row), h6.kept fun q hq => hon.block q (by have := (h6.lt q hq).1; omega) (h6.lt q hq).2⟩
        · have hm : L 13 = false := hI.waits hLi 13 rfl (by kernel_rfl)
          have := hg.nte.onto hon (by omega)
          rw [hm] at this
          simpa [hm] using this
      · cases hi
        have e1 : A.eval (.tmp 3) = .pointer (some ⟨w2.heap.size, 0, none⟩) := hI.old 3 (by kernel_rfl)
        have e2 : A.eval (.tmp 28) = n.val := hI.km hd 11 28 rfl rfl (by kernel_rfl)
        have hL : L 12 = true := hI.came hd 12 (by kernel_rfl)
        have hr : Row W w2.heap.size (ncs Nt.nul) 30 := by have := hg.nte; rw [hLi] at this; exact this
        obtain ⟨v', q1, q2⟩ : ∃ v, Row W w1.heap.size #[.int .i64 kk, v] 26 ∧ OwnA fN.T fN n1 W v l := by have := hg.pip; rw [hL] at this; exact this
        have hon : Onto w2.heap.size W (W.setRow w2.heap.size (ncs n)) := ⟨rfl, rfl, rfl, by simp, fun k hk _ => setRow_other W w2.heap.size k _ hk⟩
        refine at_op rfl rfl (wp_store_row _ _ _ rfl w2.heap.size (ncs n) e1 (e2.trans (ncs_val n)) _ _ hr.row info_nt rfl (ncs_one n) ⟨_, rfl, ⟨hg.arg.onto hon (by omega), ?_, below_onto hg.bel hon (by omega), Nat.le_trans hg.sz hon.size, ?_, ?_⟩, fun j v hk => kPfS_keep (g2 := w1.heap.size) (g3 := w2.heap.size) j v _ _ hk ⟨hon.size, fun k _ h1 h2 => hon.block k h1 h2⟩ (by omega) (by omega) (by omega) (by omega), fun h => absurd rfl h⟩)
        · exact hg.sl.moved hon.size fun h0 k hk => hon.block k (by have := hu0 k hk; omega) (hg.sl.lt h0 k hk)
        · simp only [hL, Bool.true_or, if_true]
          exact ⟨v', q1.onto hon (by omega), q2.kept fun q hq => hon.block q (by have := (q2.lt q hq).1; omega) (q2.lt q hq).2⟩
        · simp only [BEq.rfl, Bool.or_true, if_true]
          exact Row.of (setRow_heap W w2.heap.size _ _ _ _ hr.row)
      · cases hi
        exact at_op rfl rfl (assign_op rfl ⟨_, rfl, by simpa using hg, fun _ _ h => h, fun _ => rfl⟩)
      · omega
    case done =>
      intro A W hI hS
      have hg : Gpf fN.T w w.heap.size w1.heap.size w2.heap.size n1 kk u n l true true W := hS
      obtain ⟨v', q1, q2⟩ := hg.pip
      have q3 : Row W w2.heap.size (ncs n) 30 := hg.nte
      have e4 : A.tmps.getD 4 undef = .bool true := hI.kml 14 4 rfl
      have hA := hI.frame [17, 18, 19, 20, 21, 22, 23, 24, 25, 26, 27, 28, 4] (by kernel_rfl)
      rw [hA]
      simp only [putAll, List.foldl_cons, List.foldl_nil, e4, Act.put, List.setIfInBounds_toArray, List.set_cons_zero, List.set_cons_succ]
      clear hA hI e4
      go_wp2
      exact ret_ppn rfl rfl q1 rfl q3 rfl rfl ⟨_, rfl, ⟨v', rfl, q2.mono (by omega)⟩, hg.bel⟩
def kPfI (s n1 g1 b off : Nat) (c : Int) (u : Value) (n : Nt) (l : List Nt) : List (Value → World → Prop) :=
  [KIs (.pointer (some ⟨g1, 0, none⟩)), KIs (.int .i64 c), KIs (.pointer (some ⟨g1, 1, none⟩)), KIs u, KRd s l, fun v W => ∃ v', v = .agg #[.int .i64 c, v'] ∧ OwnA 83 fN n1 W v' l, KIs (.pointer (some ⟨g1, 1, none⟩)), KIs u, KIs (.pointer (some ⟨b, off, none⟩)), KIs n.val, KAny, KAny, KIs (.bool true)]
theorem kPfI_keep {s n1 g1 g2 g3 b off : Nat} {c : Int} {u : Value} {n : Nt} {l : List Nt} (j : Nat) (v : Value) (W W' : World) (h : (kPfI s n1 g1 b off c u n l).getD j KAny v W) (hb : But2 g2 g3 W W') (h2 : s ≤ g2) (h3 : s ≤ g3) (n2 : g2 < n1) (n3 : g3 < n1) : (kPfI s n1 g1 b off c u n l).getD j KAny v W' := by
  have key : ∀ q, n1 ≤ q → q < W.heap.size → W'.heap[q]? = W.heap[q]? := fun q h1 h2 => hb.block q (by omega) (by omega) h2
  rcases j with _ | _ | _ | _ | _ | _ | _ | _ | _ | _ | _ | _ | _ | j
  · exact h
  · exact h
  · exact h
  · exact h
  · exact h.but hb h2 h3
  · obtain ⟨x, e, h1⟩ := h; exact ⟨x, e, h1.kept fun q hq => key q (h1.lt q hq).1 (h1.lt q hq).2⟩
  · exact h
  · exact h
  · exact h
  · exact h
  · exact h
  · exact h
  · exact h
  · exact h
set_option maxHeartbeats 1000000 in
theorem pipeFirst_impl (v : Value) (p : Pp) (w : World) (h : PpSl w v p) :
    Calls Try.prog 13 #[v] w fun e w' => ∃ v', e = .returned (.tuple #[v', (pipeFirst p).2.1.val, .bool (pipeFirst p).2.2]) ∧ PpOwn 83 w.heap.size w' v' (pipeFirst p).1 ∧ Below w.heap.size w w' := by
  obtain ⟨u, rfl, hu⟩ := h
  obtain ⟨c, l⟩ := p
  have hu : SlF fN w u l := hu
  obtain ⟨vv, hvv⟩ : ∃ vv, vv = Value.agg #[.int .i64 c, u] := ⟨_, rfl⟩
  show Calls Try.prog 13 #[.agg #[.int .i64 c, u]] w _
  rw [← hvv]
  have hone := hu.one
  cases hok : Pp.ok ⟨c, l⟩
  · have HR : Hid (pipeFirst ⟨c, l⟩ = (Pp.nul, Nt.nul, false)) := show _ = _ by unfold pipeFirst; rw [hok]; rfl
    rw [HR.out]
    go_enter Try.func13, Try.ntmps13
    go_wp2_with (first
      | (refine box_pp rfl rfl hvv ?_; intro w1 r1 b1)
      | (refine al_pp rfl rfl ?_; intro w2 r2 b2; have B2 := below_more b1 b2; have q2 := r1.below b2; have l2 := r2.lt)
      | (refine al_nt rfl rfl ?_; intro w3 r3 b3; have B3 := below_more B2 b3; have q3 := q2.below b3; have p3 := r2.below b3; have l3 := r3.lt)
      | (refine ld_pp rfl rfl rfl q3 ?_)
      | (go_at_call 18; refine (pipeOk_impl _ ⟨c, l⟩ _ ⟨_, rfl, hu.below B3⟩).mono ?_; rintro e w4 ⟨rfl, b4⟩; rw [hok]; have B4 := below_more B3 b4; have p4 := p3.below b4; have n4 := r3.below b4)
      | (refine st_pp rfl rfl rfl rfl p4 rfl rfl ?_; rintro w5 r5 o5 -; have B5 := below_onto B4 o5 (by have := b1.size; omega); have n5 := n4.onto o5 (by omega))
      | (refine st_nt (n := Nt.nul) rfl rfl rfl rfl n5 ?_; rintro w6 r6 o6 -; have B6 := below_onto B5 o6 (by have := B2.size; omega); have r56 := r5.onto o6 (by omega)))
    exact ret_ppn rfl rfl r56 rfl r6 rfl rfl ⟨_, rfl, pp_nul _ _ _, B6⟩
  have h4 := Pp.ok_parts hok
  obtain ⟨k1, k2, k3⟩ : 1 ≤ c ∧ c ≤ 8 ∧ (l.length : Int) ≤ c := ⟨h4.1, h4.2.1, h4.2.2.1⟩
  clear h4
  obtain ⟨kk, rfl⟩ : ∃ kk : Nat, c = (kk : Int) := ⟨c.toNat, by omega⟩
  rcases l with _ | ⟨n, l⟩
  · have HR : Hid (pipeFirst ⟨kk, []⟩ = (⟨kk, []⟩, Nt.nul, false)) := show _ = _ by unfold pipeFirst; rw [hok]; rfl
    rw [HR.out]
    obtain ⟨a, cp, rfl, -, hlc, hcm, -⟩ := id hu
    unfold maxLen at hcm
    obtain ⟨l, hl⟩ : ∃ l : List Nt, l = [] := ⟨_, rfl⟩
    rw [← hl] at hu hok hvv hlc k3 ⊢
    have h0 : l.length = 0 := by rw [hl]; rfl
    have H0 : Hid (l.length = 0) := h0
    have hz : ((l.length : Int) == 0) = true := by simp [h0]
    have hz2 : decide (l.length = 0) = true := by simp [h0]
    have HL : Hid (l = []) := hl
    clear h0 hl
    go_enter Try.func13, Try.ntmps13
    go_wp2_with (first
      | (refine box_pp rfl rfl hvv ?_; intro w1 r1 b1)
      | (refine al_pp rfl rfl ?_; intro w2 r2 b2; have B2 := below_more b1 b2; have q2 := r1.below b2; have l2 := r2.lt)
      | (refine al_nt rfl rfl ?_; intro w3 r3 b3; have B3 := below_more B2 b3; have q3 := q2.below b3; have p3 := r2.below b3; have l3 := r3.lt)
      | (refine ld_pp rfl rfl rfl q3 ?_)
      | (go_at_call 18; refine (pipeOk_impl _ ⟨kk, l⟩ _ ⟨_, rfl, hu.below B3⟩).mono ?_; rintro e w4 ⟨rfl, b4⟩; rw [hok]; have B4 := below_more B3 b4; have q4 := q3.below b4; have p4 := p3.below b4; have n4 := r3.below b4; have l4 := n4.lt; have c40 : w4.cell? ⟨w.heap.size, 0, none⟩ = some (.int .i64 kk) := q4.cell 0; have c41 : w4.cell? ⟨w.heap.size, 1, none⟩ = some (.slice a l.length cp) := q4.cell 1)
      | (go_at_call 32; refine (pipeHolding_impl kk _ [] _ ⟨none, 0, rfl, .inl rfl, Nat.le_refl _, by decide, fun _ => ⟨rfl, rfl⟩⟩ (by simp) (by omega) (by omega)).mono ?_; rintro e w5 ⟨g', rfl, ho5, b5⟩; have B5 := below_more B4 b5; have p5 := p4.below b5; have n5 := n4.below b5; have s5 := b5.size)
      | (refine st_pp rfl rfl rfl rfl p5 rfl rfl ?_; rintro w6 r6 o6 -; have B6 := below_onto B5 o6 (by have := b1.size; omega); have n6 := n5.onto o6 (by omega); have ho6 := ho5.onto o6 (fun e => by have := (ho5.lt _ e).1; omega))
      | (refine st_nt (n := Nt.nul) rfl rfl rfl rfl n6 ?_; rintro w7 r7 o7 -; have B7 := below_onto B6 o7 (by have := B2.size; omega); have r67 := r6.onto o7 (by omega); have ho7 := ho6.onto o7 (fun e => by have := (ho5.lt _ e).1; omega)))
    rw [HL.out]
    exact ret_ppn rfl rfl r67 rfl r7 rfl rfl ⟨_, rfl, ⟨_, rfl, OwnA.mono ho7 (by have := B4.size; omega)⟩, B7⟩
  · have HR : Hid (pipeFirst ⟨kk, n :: l⟩ = (⟨kk, l⟩, n, true)) := show _ = _ by unfold pipeFirst; rw [hok]; rfl
    rw [HR.out]
    obtain ⟨b, off, cp, hus, hbl, hlc, hcm⟩ := hu.shape (by simp)
    have HU : Hid (u = .slice (some ⟨b, off, none⟩) (n :: l).length cp) := hus
    have hu0 : ∀ k, u.ownBlock = some k → k < w.heap.size := fun k hk => by rw [hus] at hk; cases hk; exact hbl
    obtain ⟨ln, hln⟩ : ∃ ln, ln = (n :: l).length := ⟨_, rfl⟩
    have hl1 : l.length + 1 ≤ ln := Nat.le_of_eq (by rw [hln]; rfl)
    have hl2 : ln ≤ l.length + 1 := Nat.le_of_eq (by rw [hln]; rfl)
    have HU2 : Hid (u = .slice (some ⟨b, off, none⟩) ln cp) := show _ = _ by rw [hus, hln]
    have k3' : (ln : Int) ≤ (kk : Int) := by rw [hln]; exact k3
    have hlc' : ln ≤ cp := by rw [hln]; exact hlc
    have hz : ((ln : Int) == 0) = false := by simp; omega
    have hz2 : decide (ln = 0) = false := by simp; omega
    clear hln hus k3 hlc
    unfold maxLen at hcm
    go_enter Try.func13, Try.ntmps13
    go_wp2_with (first
      | (refine box_pp rfl rfl hvv ?_; intro w1 r1 b1)
      | (refine al_pp rfl rfl ?_; intro w2 r2 b2; have B2 := below_more b1 b2; have q2 := r1.below b2; have l2 := r2.lt)
      | (refine al_nt rfl rfl ?_; intro w3 r3 b3; have B3 := below_more B2 b3; have q3 := q2.below b3; have p3 := r2.below b3; have l3 := r3.lt)
      | (refine ld_pp rfl rfl rfl q3 ?_)
      | (go_at_call 18; refine (pipeOk_impl _ ⟨kk, n :: l⟩ _ ⟨_, rfl, hu.below B3⟩).mono ?_; rintro e w4 ⟨rfl, b4⟩; rw [hok]; have B4 := below_more B3 b4; have q4 := q3.below b4; have p4 := p3.below b4; have n4 := r3.below b4; have l4 := n4.lt; have c40 : w4.cell? ⟨w.heap.size, 0, none⟩ = some (.int .i64 kk) := q4.cell 0; have c41 : w4.cell? ⟨w.heap.size, 1, none⟩ = some (.slice (some ⟨b, off, none⟩) ln cp) := (HU2.out ▸ q4.cell 1)))
    have l1 := r1.lt
    have s1 := b1.size
    have s2 := b2.size
    have s3 := b3.size
    have s4 := b4.size
    obtain ⟨n1, hn1⟩ : ∃ n1, w4.heap.size = n1 := ⟨_, rfl⟩
    have h0 : Gpf 83 w w.heap.size w1.heap.size w2.heap.size n1 kk u n l false false w4 := ⟨q4, hu.below B4, B4, by omega, p4, n4⟩
    clear q4 p4 n4 c40 c41 r1 r2 r3 q2 q3 p3
    refine region_km (by kernel_rfl) (by kernel_rfl) (by kernel_rfl) (fun L W => Gpf 83 w w.heap.size w1.heap.size w2.heap.size n1 kk u n l (L 10) (L 11) W) (fun j => (kPfI w.heap.size n1 w.heap.size b off kk u n l).getD j KAny) (fun L L' W hL h => by rw [← hL 10 (by decide), ← hL 11 (by decide)]; exact h) (h0.below (drew_below (n := 1) rfl)) ?step ?done
    case step =>
      intro L ix o A W hi hI hLi hd
      have hus := HU2.out
      have hin : ix < 13 := by
        by_cases hl : ix < 13
        · exact hl
        · simp [hl] at hi
      have hsz : A.tmps.size = 28 := hI.size
      have hg : Gpf 83 w w.heap.size w1.heap.size w2.heap.size n1 kk u n l (L 10) (L 11) W := hI.j.1
      have go : ∀ {W'} , Below W.heap.size W W' → ∀ j v, (kPfI w.heap.size n1 w.heap.size b off kk u n l).getD j KAny v W → (kPfI w.heap.size n1 w.heap.size b off kk u n l).getD j KAny v W' := fun hb j v hk => kPfI_keep (g2 := w1.heap.size) (g3 := w2.heap.size) j v _ _ hk ⟨hb.size, fun k _ _ hp => hb.block k hp⟩ (by omega) (by omega) (by omega) (by omega)
      rcases ix with _ | _ | _ | _ | _ | _ | _ | _ | _ | _ | _ | _ | _ | ix
      · cases hi
        have e1 : A.eval (.tmp 1) = .pointer (some ⟨w.heap.size, 0, none⟩) := hI.old 1 (by kernel_rfl)
        refine at_op rfl rfl (val_op (v := .pointer (some ⟨w.heap.size, 0, none⟩)) ?_ ⟨_, rfl, by simpa using hg, fun _ _ h => h, fun _ => rfl⟩)
        unfold execOp
        simp only [List.getElem_toArray, List.getElem_cons_zero, List.getElem_cons_succ, e1]
        simp [go_sem]
      · cases hi
        have e1 : A.eval (.tmp 18) = .pointer (some ⟨w.heap.size, 0, none⟩) := hI.km hd 0 18 rfl rfl (by kernel_rfl)
        have c0 : W.cell? ⟨w.heap.size, 0, none⟩ = some (.int .i64 kk) := hg.arg.cell 0
        refine at_op rfl rfl (val_op (v := .int .i64 kk) ?_ ⟨_, rfl, by simpa using hg, fun _ _ h => h, fun _ => rfl⟩)
        unfold execOp
        simp only [List.getElem_toArray, List.getElem_cons_zero, List.getElem_cons_succ, e1]
        simp [go_sem, c0]
      · cases hi
        have e1 : A.eval (.tmp 1) = .pointer (some ⟨w.heap.size, 0, none⟩) := hI.old 1 (by kernel_rfl)
        refine at_op rfl rfl (val_op (v := .pointer (some ⟨w.heap.size, 1, none⟩)) ?_ ⟨_, rfl, by simpa using hg, fun _ _ h => h, fun _ => rfl⟩)
        unfold execOp
        simp only [List.getElem_toArray, List.getElem_cons_zero, List.getElem_cons_succ, e1]
        simp [go_sem]
      · cases hi
        have e1 : A.eval (.tmp 20) = .pointer (some ⟨w.heap.size, 1, none⟩) := hI.km hd 2 20 rfl rfl (by kernel_rfl)
        have c0 : W.cell? ⟨w.heap.size, 1, none⟩ = some (u) := hg.arg.cell 1
        refine at_op rfl rfl (val_op (v := u) ?_ ⟨_, rfl, by simpa using hg, fun _ _ h => h, fun _ => rfl⟩)
        unfold execOp
        simp only [List.getElem_toArray, List.getElem_cons_zero, List.getElem_cons_succ, e1]
        simp [go_sem, c0]
      · cases hi
        have e1 : A.eval (.tmp 21) = u := hI.km hd 3 21 rfl rfl (by kernel_rfl)
        refine at_op rfl rfl (dropF_op okN (r := 1) rfl (e1.trans hus) rfl (by omega) (by rw [← hus]; exact hg.sl) ?_)
        intro v' hs' ho'
        exact ⟨_, rfl, by simpa using hg, fun _ _ h => h, fun _ => ⟨hs', fun _ k hk => by rw [ho'] at hk; cases hk; exact ⟨hbl, Nat.lt_of_lt_of_le hbl hg.bel.size⟩⟩⟩
      · cases hi
        have e1 : A.eval (.tmp 19) = .int .i64 kk := hI.km hd 1 19 rfl rfl (by kernel_rfl)
        have e2 : KRd w.heap.size l (A.eval (.tmp 22)) W := hI.km hd 4 22 rfl rfl (by kernel_rfl)
        refine at_op rfl rfl (call_op rfl Try.func32 (by kernel_rfl) (by kernel_rfl) ?_)
        simp only [List.map_cons, List.map_nil, e1]
        refine (pipeHolding_impl kk _ l W e2.1 (by omega) (by omega) (by omega)).mono ?_
        rintro e W' ⟨g', rfl, ho, hb⟩
        exact ⟨_, rfl, _, rfl, by simpa using hg.below hb, go hb, fun _ => ⟨_, rfl, ho.mono hg.sz⟩⟩
      · cases hi
        have e1 : A.eval (.tmp 1) = .pointer (some ⟨w.heap.size, 0, none⟩) := hI.old 1 (by kernel_rfl)
        refine at_op rfl rfl (val_op (v := .pointer (some ⟨w.heap.size, 1, none⟩)) ?_ ⟨_, rfl, by simpa using hg, fun _ _ h => h, fun _ => rfl⟩)
        unfold execOp
        simp only [List.getElem_toArray, List.getElem_cons_zero, List.getElem_cons_succ, e1]
        simp [go_sem]
      · cases hi
        have e1 : A.eval (.tmp 24) = .pointer (some ⟨w.heap.size, 1, none⟩) := hI.km hd 6 24 rfl rfl (by kernel_rfl)
        have c0 : W.cell? ⟨w.heap.size, 1, none⟩ = some (u) := hg.arg.cell 1
        refine at_op rfl rfl (val_op (v := u) ?_ ⟨_, rfl, by simpa using hg, fun _ _ h => h, fun _ => rfl⟩)
        unfold execOp
        simp only [List.getElem_toArray, List.getElem_cons_zero, List.getElem_cons_succ, e1]
        simp [go_sem, c0]
      · cases hi
        have e1 : A.eval (.tmp 25) = u := hI.km hd 7 25 rfl rfl (by kernel_rfl)
        exact at_op rfl rfl (ixF_op okN (r := 0) rfl (e1.trans hus) rfl (by omega) ⟨_, rfl, by simpa using hg, fun _ _ h => h, fun _ => by show _ = _; simp⟩)
      · cases hi
        have e1 : A.eval (.tmp 26) = .pointer (some ⟨b, off, none⟩) := hI.km hd 8 26 rfl rfl (by kernel_rfl)
        have hr : W.rangeAt b off (fN.F n) := by
          have := hg.sl
          rw [hus] at this
          have := this.range okN (i := 0) (x := n) rfl
          rwa [Nat.zero_mul, Nat.add_zero] at this
        exact at_op rfl rfl (elF_op okN rfl e1 hr ⟨_, rfl, by simpa using hg, fun _ _ h => h, fun _ => rfl⟩)
      · cases hi
        have e1 : A.eval (.tmp 2) = .pointer (some ⟨w1.heap.size, 0, none⟩) := hI.old 2 (by kernel_rfl)
        obtain ⟨v', e2, h6⟩ : ∃ v', A.eval (.tmp 23) = .agg #[.int .i64 kk, v'] ∧ OwnA 83 fN n1 W v' l := hI.km hd 5 23 rfl rfl (by kernel_rfl)
        have hr : Row W w1.heap.size #[.int .i64 0, .slice none 0 0] 26 := by have := hg.pip; rw [hLi] at this; exact this
        have o1 := h6.one okN
        unfold Value.oneCell' at o1
        have hon : Onto w1.heap.size W (W.setRow w1.heap.size #[.int .i64 kk, v']) := ⟨rfl, rfl, rfl, by simp, fun k hk _ => setRow_other W w1.heap.size k _ hk⟩
        refine at_op rfl rfl (wp_store_row _ _ _ rfl w1.heap.size #[.int .i64 kk, v'] e1 e2 _ _ hr.row info_pp rfl (by simp only [List.all_toArray, List.all_cons, List.all_nil, Value.oneCell', o1, Bool.and_true]) ⟨_, rfl, ⟨hg.arg.onto hon (by omega), ?_, below_onto hg.bel hon (by omega), Nat.le_trans hg.sz hon.size, ?_, ?_⟩, fun j v hk => kPfI_keep (g2 := w1.heap.size) (g3 := w2.heap.size) j v _ _ hk ⟨hon.size, fun k h1 _ h2 => hon.block k h1 h2⟩ (by omega) (by omega) (by omega) (by omega), fun h => absurd rfl h⟩)
        · exact hg.sl.moved hon.size fun h0 k hk => hon.block k (by have := hu0 k hk; omega) (hg.sl.lt h0 k hk)
        · simp only [BEq.rfl, Bool.or_true, if_true]
          exact ⟨v', Row.of (setRow_heap W w1.heap.size _ _ _ _ hr.row), h6.kept fun q hq => hon.block q (by have := (h6.lt q hq).1; omega) (h6.lt q hq).2⟩
        · have hm : L 11 = false := hI.waits hLi 11 rfl (by kernel_rfl)
          have := hg.nte.onto hon (by omega)
          rw [hm] at this
          simpa [hm] using this
      · cases hi
        have e1 : A.eval (.tmp 3) = .pointer (some ⟨w2.heap.size, 0, none⟩) := hI.old 3 (by kernel_rfl)
        have e2 : A.eval (.tmp 27) = n.val := hI.km hd 9 27 rfl rfl (by kernel_rfl)
        have hL : L 10 = true := hI.came hd 10 (by kernel_rfl)
        have hr : Row W w2.heap.size (ncs Nt.nul) 30 := by have := hg.nte; rw [hLi] at this; exact this
        obtain ⟨v', q1, q2⟩ : ∃ v, Row W w1.heap.size #[.int .i64 kk, v] 26 ∧ OwnA 83 fN n1 W v l := by have := hg.pip; rw [hL] at this; exact this
        have hon : Onto w2.heap.size W (W.setRow w2.heap.size (ncs n)) := ⟨rfl, rfl, rfl, by simp, fun k hk _ => setRow_other W w2.heap.size k _ hk⟩
        refine at_op rfl rfl (wp_store_row _ _ _ rfl w2.heap.size (ncs n) e1 (e2.trans (ncs_val n)) _ _ hr.row info_nt rfl (ncs_one n) ⟨_, rfl, ⟨hg.arg.onto hon (by omega), ?_, below_onto hg.bel hon (by omega), Nat.le_trans hg.sz hon.size, ?_, ?_⟩, fun j v hk => kPfI_keep (g2 := w1.heap.size) (g3 := w2.heap.size) j v _ _ hk ⟨hon.size, fun k _ h1 h2 => hon.block k h1 h2⟩ (by omega) (by omega) (by omega) (by omega), fun h => absurd rfl h⟩)
        · exact hg.sl.moved hon.size fun h0 k hk => hon.block k (by have := hu0 k hk; omega) (hg.sl.lt h0 k hk)
        · simp only [hL, Bool.true_or, if_true]
          exact ⟨v', q1.onto hon (by omega), q2.kept fun q hq => hon.block q (by have := (q2.lt q hq).1; omega) (q2.lt q hq).2⟩
        · simp only [BEq.rfl, Bool.or_true, if_true]
          exact Row.of (setRow_heap W w2.heap.size _ _ _ _ hr.row)
      · cases hi
        exact at_op rfl rfl (assign_op rfl ⟨_, rfl, by simpa using hg, fun _ _ h => h, fun _ => rfl⟩)
      · omega
    case done =>
      intro A W hI hS
      have hg : Gpf 83 w w.heap.size w1.heap.size w2.heap.size n1 kk u n l true true W := hS
      obtain ⟨v', q1, q2⟩ := hg.pip
      have q3 : Row W w2.heap.size (ncs n) 30 := hg.nte
      have e4 : A.tmps.getD 4 undef = .bool true := hI.kml 12 4 rfl
      have hA := hI.frame [18, 19, 20, 21, 22, 23, 24, 25, 26, 27, 4] (by kernel_rfl)
      rw [hA]
      simp only [putAll, List.foldl_cons, List.foldl_nil, e4, Act.put, List.setIfInBounds_toArray, List.set_cons_zero, List.set_cons_succ]
      clear hA hI e4
      go_wp2
      exact ret_ppn rfl rfl q1 rfl q3 rfl rfl ⟨_, rfl, ⟨v', rfl, q2.mono (by omega)⟩, hg.bel⟩
end Go.Proofs.Ytggfjghcgacdnaa.Mem
