/-
  Pipes, as the document tells them; one in memory of its own.
-/
import Derived.Test.YtggfjghcgacdnaaNt
import Derived.Test.YtggfjghcgacdnaaOwA
import Derived.Test.YtggfjghcgacdnaaKrm
namespace Go.Proofs.Ytggfjghcgacdnaa.Mem
open Go.ChangeShapes Go.WideShapes Go.RowKit Base Num Slc Slf Rw Tmr Reg
set_option linter.unusedVariables false
set_option linter.unusedSimpArgs false
set_option maxRecDepth 20000

/-- A pipe: its room, what is in it. -/
structure Pp where
  c : Int
  l : List Nt
def Pp.nul : Pp := ⟨0, []⟩
def Pp.ok (p : Pp) : Bool := p.l.all Nt.ok && (inn p.c 1 8 && decide ((p.l.length : Int) ≤ p.c))
def pipeWith (p : Pp) (n : Nt) : Pp × Bool := if p.ok then (if decide (p.c ≤ p.l.length) || !n.ok then (p, false) else (⟨p.c, p.l ++ [n]⟩, true)) else (Pp.nul, false)
def pipeFirst (p : Pp) : Pp × Nt × Bool := if p.ok then (match p.l with
  | [] => (p, Nt.nul, false)
  | n :: l => (⟨p.c, l⟩, n, true)) else (Pp.nul, Nt.nul, false)
/-- The value v reads as the pipe p. -/
def PpSl (w : World) (v : Value) (p : Pp) : Prop := ∃ u, v = .agg #[.int .i64 p.c, u] ∧ SlF fN w u p.l
/-- The value v is a pipe of a call's own. -/
def PpOwn (B : TypeId) (base : Nat) (w : World) (v : Value) (p : Pp) : Prop := ∃ u, v = .agg #[.int .i64 p.c, u] ∧ OwnA B fN base w u p.l
theorem info_pp : (Try.prog.info? 26).map (·.size) = some 2 := by kernel_rfl
theorem info_nts : (Try.prog.info? 83).map (fun i => (i.zero.map (·.cells.size), i.size)) = some (some 40, 40) := by kernel_rfl
def ppc (c : Int) (v : Value) : Array Value := #[.int .i64 c, v]
theorem und_pp : ∃ fs, Try.prog.underlying 26 = some (.struct fs) := ⟨_, Try.underlying26⟩
theorem sz_nts : (Try.prog.info? 24).map (·.size) = some 1 := by kernel_rfl
theorem cells_1 {v : Value} (h : v.oneCell' = true) : v.cells.toList = [v] := by cases v <;> first | rfl | (simp [Value.oneCell'] at h; done)
section
variable {ops : Array Oper} {rest : List Oper} {o : Oper} {a : Act} {w : World} {Q : Exit → Act → World → Prop} {p q : Operand} {g k : Nat} {v x y x0 y0 : Value} {T : TypeId} {c : Int}
theorem al_pp (hgd : o.guard = none) (ho : o.op = .alloc 26)
    (h : ∀ w', Row w' w.heap.size #[.int .i64 0, .slice none 0 0] 26 → Below w.heap.size w w' → wpList Try.prog ops Q rest (a.put o.dst (.pointer (some ⟨w.heap.size, 0, none⟩))) w') : wpList Try.prog ops Q (o :: rest) a w :=
  wpList_plain hgd fun _ hK => by
    have e : (execOp a.eval o).run Try.prog w = .ok (.value (.pointer (some ⟨w.heap.size, 0, none⟩))) (w.alloc (.cells #[.int .i64 0, .slice none 0 0] 26)) := by
      unfold execOp
      rw [ho]
      kernel_rfl
    unfold Oper.wp
    rw [e]
    exact hK _ _ (h _ (Row.new _ _ _) ((Below.refl _ _).alloc (Nat.le_refl _) _))
theorem al_nts (hgd : o.guard = none) (ho : o.op = .alloc 83)
    (h : ∀ w' cs, cs.size = 40 → Row w' w.heap.size cs 83 → Below w.heap.size w w' → wpList Try.prog ops Q rest (a.put o.dst (.pointer (some ⟨w.heap.size, 0, none⟩))) w') : wpList Try.prog ops Q (o :: rest) a w :=
  wpList_plain hgd fun _ hK => by
    have e : ∃ cs : Array Value, cs.size = 40 ∧ (execOp a.eval o).run Try.prog w = .ok (.value (.pointer (some ⟨w.heap.size, 0, none⟩))) (w.alloc (.cells cs 83)) := by
      unfold execOp
      rw [ho]
      exact ⟨((List.replicate 8 Nt.nul).flatMap Nt.cs).toArray, by kernel_rfl, by kernel_rfl⟩
    obtain ⟨cs, hs, e⟩ := e
    unfold Oper.wp
    rw [e]
    exact hK _ _ (h _ cs hs (Row.new _ _ _) ((Below.refl _ _).alloc (Nat.le_refl _) _))
theorem box_pp (hgd : o.guard = none) (ho : o.op = .box 26 p) (hx : a.eval p = .agg #[x, y])
    (h : ∀ w', Row w' w.heap.size #[x, y] 26 → Below w.heap.size w w' → wpList Try.prog ops Q rest (a.put o.dst (.pointer (some ⟨w.heap.size, 0, none⟩))) w') : wpList Try.prog ops Q (o :: rest) a w :=
  wpList_plain hgd fun _ hK => by
    have e : (Instr.box 26 (.agg #[x, y])).run Try.prog w = .ok (.pointer (some ⟨w.heap.size, 0, none⟩)) (w.alloc (.cells #[x, y] 26)) := rfl
    unfold Oper.wp execOp
    simp only [ho, hx, Sem.run_bind, Result.andThen_ok, e]
    exact hK _ _ (h _ (Row.new _ _ _) ((Below.refl _ _).alloc (Nat.le_refl _) _))
theorem ld_pp (hgd : o.guard = none) (ho : o.op = .load 26 p) (hx : a.eval p = .pointer (some ⟨g, 0, none⟩)) (hr : Row w g #[x, y] T) (h : wpList Try.prog ops Q rest (a.put o.dst (.agg #[x, y])) w) : wpList Try.prog ops Q (o :: rest) a w :=
  ld_row hgd _ p ho hx hr Try.underlying26 rfl info_pp h
theorem st_pp (hgd : o.guard = none) (ho : o.op = .store 26 p q) (hx : a.eval p = .pointer (some ⟨g, 0, none⟩)) (hy : a.eval q = .agg #[x, y]) (hr : Row w g #[x0, y0] T) (h1 : x.oneCell' = true) (h2 : y.oneCell' = true)
    (h : ∀ w', Row w' g #[x, y] T → Onto g w w' → w'.heap.size = w.heap.size → wpList Try.prog ops Q rest (a.put o.dst undef) w') : wpList Try.prog ops Q (o :: rest) a w :=
  st_row hgd _ p q ho hx hy hr info_pp rfl (by unfold Value.oneCell' at h1 h2; simp only [List.all_toArray, List.all_cons, List.all_nil, Value.oneCell', h1, h2, Bool.and_true]) h
theorem st_pp1 (hgd : o.guard = none) (ho : o.op = .store 24 p q) (hx : a.eval p = .pointer (some ⟨g, 1, none⟩)) (hy : a.eval q = v) (hr : Row w g #[x, y] T) (h1 : v.oneCell' = true)
    (h : ∀ w', Row w' g #[x, v] T → Onto g w w' → w'.heap.size = w.heap.size → wpList Try.prog ops Q rest (a.put o.dst undef) w') : wpList Try.prog ops Q (o :: rest) a w :=
  st_in (vs := [v]) (cs' := #[x, v]) hgd ho hx hy hr (cells_1 h1) sz_nts rfl (by simp [h1]) rfl h
end
/-- 'places[:n:k]' of an array of eight. -/
theorem cut3 {ops : Array Oper} {rest : List Oper} {o : Oper} {a : Act} {w : World} {Q : Exit → Act → World → Prop} {p y z : Operand} {g n k : Nat} (hgd : o.guard = none) (ho : o.op = .slice 83 p none (some y) (some z)) (hx : a.eval p = .pointer (some ⟨g, 0, none⟩)) (hy : a.eval y = .int .i64 (n : Int)) (hz : a.eval z = .int .i64 (k : Int)) (hn : n ≤ k) (hk : k ≤ 8) (h1 : 0 < k)
    (h : wpList Try.prog ops Q rest (a.put o.dst (.slice (some ⟨g, 0, none⟩) n k)) w) : wpList Try.prog ops Q (o :: rest) a w :=
  wpList_plain hgd fun _ hK => by
    refine val_op (v := .slice (some ⟨g, 0, none⟩) n k) ?_ (hK _ _ h)
    clear h hK
    generalize a.eval = ev at hx hy hz ⊢
    unfold execOp
    simp only [ho, hx]
    have hu : Try.prog.underlying 83 = some (.array 8 30) := Try.underlying83
    have h2 : (n : Int) ≤ (k : Int) := by omega
    have h3 : (k : Int) ≤ 8 := by omega
    have h4 : ¬ k = 0 := by omega
    simp [go_sem, hy, hz, hu, h2, h3, h4, sizeF okN, Instr.sliceAt, Instr.sliceBounds]
    intro hlt
    omega
theorem pipeHolding_impl (k : Nat) (v : Value) (l : List Nt) (w : World) (h : SlF fN w v l) (hl : l.length ≤ k) (hk : k ≤ 8) (h1 : 0 < k) :
    Calls Try.prog 32 #[.int .i64 (k : Int), v] w fun e w' => ∃ g, e = .returned (.agg #[.int .i64 (k : Int), .slice (some ⟨g, 0, none⟩) l.length k]) ∧ OwnA 83 fN w.heap.size w' (.slice (some ⟨g, 0, none⟩) l.length k) l ∧ Below w.heap.size w w' := by
  go_enter Try.func32, Try.ntmps32
  go_wp2_with (first
    | (refine al_pp rfl rfl ?_; intro w1 r1 b1)
    | (refine al_nts rfl rfl ?_; intro w2 cs hs r2 b2; have hv := (h.below b1).below b2)
    | (refine copyA okN rfl rfl rfl r2.row hv (by omega) (by rw [hs]; decide) ?_; intro w3 cur hc hsz ht ho; have q1 := (r1.below b2).onto ho (by have := b1.size; have := r1.lt; omega))
    | (refine cut3 rfl rfl rfl rfl rfl hl hk h1 ?_)
    | (refine st_pp rfl rfl rfl rfl q1 rfl rfl ?_; rintro w4 r4 o4 -))
  have l1 := r1.lt
  have hc4 : w4.heap[w1.heap.size]? = some (.cells cur 83 (0, 0)) := by
    rw [o4.block _ (by omega) (Array.getElem?_eq_some_iff.1 hc).1]; exact hc
  have B2 := below_more b1 b2
  have B3 := below_onto B2 ho (by omega)
  have B4 := below_onto B3 o4 (Nat.le_refl _)
  refine ret_row rfl rfl r4 Try.underlying26 rfl info_pp rfl ⟨_, rfl, .inr ⟨_, k, cur, rfl, by omega, hc4, hl, by unfold maxLen; omega, by rw [hsz, hs]; show k * 5 ≤ 40; omega, ht⟩, B4⟩
theorem noteWrong_impl (n : Nt) (w : World) : Calls Try.prog 33 #[n.val] w fun e w' => e = .returned (.bool (!n.ok)) ∧ Below w.heap.size w w' := by
  obtain ⟨vv, hvv⟩ : ∃ vv, vv = n.val := ⟨_, rfl⟩
  rw [← hvv]
  go_enter Try.func33, Try.ntmps33
  go_wp2_with (first
    | (refine box_nt rfl rfl hvv ?_; intro w0 r0 hB0)
    | (refine ld_nt rfl rfl rfl r0 ?_)
    | (go_at_call 16; refine (noteOk_impl n _).mono ?_; rintro e w2 ⟨rfl, hb2⟩))
  go_ret
  exact ⟨rfl, below_more hB0 hb2⟩
/-- A list of notes that is read, by a call that writes nothing old. -/
structure Gin (w : World) (v : Value) (l : List Nt) (W : World) : Prop where
  sl : SlF fN W v l
  bel : Below w.heap.size w W
theorem Gin.below {w W W' : World} {v : Value} {l : List Nt} (h : Gin w v l W) (hb : Below W.heap.size W W') : Gin w v l W' := ⟨h.sl.below hb, below_more h.bel hb⟩
theorem nIndexWrong_impl (v : Value) (l : List Nt) (w : World) (h : SlF fN w v l) :
    Calls Try.prog 55 #[v, fnv 33] w fun e w' => ∃ z : Int, e = .returned (.int .i64 z) ∧ decide (0 ≤ z) = l.any (fun m => !m.ok) ∧ Below w.heap.size w w' := by
  by_cases h0 : 0 < l.length
  · obtain ⟨b, off, c, rfl, hbl, hlc, hcm⟩ := h.shape h0
    unfold maxLen at hcm
    have hG : Gin w (.slice (some ⟨b, off, none⟩) l.length c) l w := ⟨h, Below.refl _ _⟩
    clear h hbl
    go_enter Try.func55, Try.ntmps55
    go_wp2_with fail
    go_loopw [8] (fun i wr => ∃ k : Nat, k ≤ l.length ∧ i = .int .i64 k ∧ (∀ j, j < k → (Nt.at' l j).ok = true) ∧ Gin w (.slice (some ⟨b, off, none⟩) l.length c) l wr) (fun i _ => l.length - (intOf i).toNat)
    case atStart => exact ⟨0, Nat.zero_le _, rfl, fun j hj => by omega, hG⟩
    case round =>
      clear hG
      obtain ⟨k, hk, rfl, hall, hG⟩ := hrel
      by_cases hlt : k < l.length
      · cases hok : (Nt.at' l k).ok
        · have HF : Hid (l.any (fun m => !m.ok) = true) := show _ = _ by
            rw [List.any_eq_true]
            exact ⟨Nt.at' l k, List.mem_of_getElem? (atN hlt), by simp [hok]⟩
          clear hall
          go_wp2_with (first
            | (refine ixF okN (r := k) rfl rfl rfl rfl hlt ?_)
            | (refine elF okN rfl rfl rfl (hG.sl.range okN (atN hlt)) ?_)
            | (refine callv (args := [.tmp 15]) rfl rfl rfl Try.func33 (by kernel_rfl) (by kernel_rfl) ?_; refine (noteWrong_impl (Nt.at' l k) _).mono ?_; rintro e w1 ⟨rfl, hb1⟩; refine ⟨_, rfl, ?_⟩; rw [hok]))
          go_ret
          exact ⟨_, rfl, by rw [HF.out]; simp, below_more hG.bel hb1⟩
        · have HK : Hid (∀ j, j < k + 1 → (Nt.at' l j).ok = true) := show ∀ _, _ from fun j hj => by
            by_cases e : j = k
            · rw [e]; exact hok
            · exact hall j (by omega)
          clear hall
          go_wp2_with (first
            | (refine ixF okN (r := k) rfl rfl rfl rfl hlt ?_)
            | (refine elF okN rfl rfl rfl (hG.sl.range okN (atN hlt)) ?_)
            | (refine callv (args := [.tmp 15]) rfl rfl rfl Try.func33 (by kernel_rfl) (by kernel_rfl) ?_; refine (noteWrong_impl (Nt.at' l k) _).mono ?_; rintro e w1 ⟨rfl, hb1⟩; refine ⟨_, rfl, ?_⟩; rw [hok]))
          go_roundw
          case rel => exact ⟨k + 1, by omega, by go_num, HK.out, hG.below hb1⟩
          case measure => simp [intOf]; omega
      · have HF : Hid (l.any (fun m => !m.ok) = false) := show _ = _ by
          rw [List.any_eq_false]
          intro x hx
          obtain ⟨j, hj, rfl⟩ := List.mem_iff_getElem.1 hx
          have := hall j (by omega)
          unfold Nt.at' at this
          rw [List.getD_eq_getElem?_getD, List.getElem?_eq_getElem hj] at this
          simpa using this
        have hbel := hG.bel
        clear hall
        go_wp2
        go_ret
        exact ⟨_, rfl, by rw [HF.out]; simp, hbel⟩
  · obtain ⟨a, cap, rfl, h1⟩ := h
    have hl : l = [] := List.eq_nil_of_length_eq_zero (by omega)
    subst hl
    go_enter Try.func55, Try.ntmps55
    go_wp2_with fail
    go_loopw [8] (fun i wr => i = .int .i64 0 ∧ wr = w) (fun i _ => 0)
    case atStart => exact ⟨rfl, rfl⟩
    case round =>
      obtain ⟨rfl, rfl⟩ := hrel
      go_wp2
      go_ret
      exact ⟨_, rfl, by simp, Below.refl _ _⟩
theorem nContainsWrong_impl (v : Value) (l : List Nt) (w : World) (h : SlF fN w v l) :
    Calls Try.prog 39 #[v, fnv 33] w fun e w' => e = .returned (.bool (l.any (fun m => !m.ok))) ∧ Below w.heap.size w w' := by
  generalize hr : l.any (fun m => !m.ok) = r
  have HR : Hid (l.any (fun m => !m.ok) = r) := hr
  clear hr
  obtain ⟨fv, hfv⟩ : ∃ fv, fv = fnv 33 := ⟨_, rfl⟩
  rw [← hfv]
  go_enter Try.func39, Try.ntmps39
  go_wp2_with (go_at_call 55; rw [hfv]; refine (nIndexWrong_impl _ _ _ h).mono ?_; rintro e w1 ⟨z, rfl, hz, hb1⟩)
  go_ret
  exact ⟨ret_bool (by rw [← HR.out, ← hz]), hb1⟩

theorem all_any (l : List Nt) : l.all Nt.ok = !l.any (fun n => !n.ok) := by
  induction l with
  | nil => rfl
  | cons n l ih => simp only [List.all_cons, List.any_cons, ih, Bool.not_or, Bool.not_not]
theorem pipeOk_impl (v : Value) (p : Pp) (w : World) (h : PpSl w v p) : Calls Try.prog 18 #[v] w fun e w' => e = .returned (.bool p.ok) ∧ Below w.heap.size w w' := by
  obtain ⟨u, rfl, hu⟩ := h
  obtain ⟨vv, hvv⟩ : ∃ vv, vv = Value.agg #[.int .i64 p.c, u] := ⟨_, rfl⟩
  rw [← hvv]
  have HO : Hid (p.ok = (p.l.all Nt.ok && (inn p.c 1 8 && decide ((p.l.length : Int) ≤ p.c)))) := show _ = _ from rfl
  have HA : Hid (p.l.all Nt.ok = !p.l.any (fun n => !n.ok)) := all_any _
  obtain ⟨a, c, rfl, -, hlc, hcm, -⟩ := id hu
  unfold maxLen at hcm
  by_cases h1 : 1 ≤ p.c
  · by_cases h8 : p.c ≤ 8
    · by_cases hc : (p.l.length : Int) ≤ p.c
      · obtain ⟨fv, hfv⟩ : ∃ fv, fv = fnv 33 := ⟨_, rfl⟩
        have HE : Hid (p.ok = !p.l.any (fun n => !n.ok)) := show _ = _ by rw [HO.out, HA.out]; simp [inn, h1, h8, hc]
        go_enter Try.func18, Try.ntmps18
        go_wp2_with (first
          | (refine box_pp rfl rfl hvv ?_; intro w0 r0 b0; have c0 : w0.cell? ⟨w.heap.size, 0, none⟩ = some (.int .i64 p.c) := r0.cell 0; have c1 : w0.cell? ⟨w.heap.size, 1, none⟩ = some (.slice a p.l.length c) := r0.cell 1)
          | (go_at_call 39; refine (nContainsWrong_impl _ _ _ (hu.below b0)).mono ?_; rintro e w1 ⟨rfl, b1⟩))
        go_ret
        exact ⟨ret_bool HE.out.symm, below_more b0 b1⟩
      · have HE : Hid (p.ok = false) := show _ = _ by rw [HO.out]; simp [inn, h1, h8, hc]
        go_enter Try.func18, Try.ntmps18
        go_wp2_with (refine box_pp rfl rfl hvv ?_; intro w0 r0 b0; have c0 : w0.cell? ⟨w.heap.size, 0, none⟩ = some (.int .i64 p.c) := r0.cell 0; have c1 : w0.cell? ⟨w.heap.size, 1, none⟩ = some (.slice a p.l.length c) := r0.cell 1)
        go_ret
        exact ⟨ret_bool (by rw [HE.out]), b0⟩
    · have HE : Hid (p.ok = false) := show _ = _ by rw [HO.out]; simp [inn, h1, h8]
      go_enter Try.func18, Try.ntmps18
      go_wp2_with (refine box_pp rfl rfl hvv ?_; intro w0 r0 b0; have c0 : w0.cell? ⟨w.heap.size, 0, none⟩ = some (.int .i64 p.c) := r0.cell 0; have c1 : w0.cell? ⟨w.heap.size, 1, none⟩ = some (.slice a p.l.length c) := r0.cell 1)
      go_ret
      exact ⟨ret_bool (by rw [HE.out]), b0⟩
  · have HE : Hid (p.ok = false) := show _ = _ by rw [HO.out]; simp [inn, h1]
    go_enter Try.func18, Try.ntmps18
    go_wp2_with (refine box_pp rfl rfl hvv ?_; intro w0 r0 b0; have c0 : w0.cell? ⟨w.heap.size, 0, none⟩ = some (.int .i64 p.c) := r0.cell 0; have c1 : w0.cell? ⟨w.heap.size, 1, none⟩ = some (.slice a p.l.length c) := r0.cell 1)
    go_ret
    exact ⟨ret_bool (by rw [HE.out]), b0⟩
theorem pipeOk_spec (v : Value) (p : Pp) (w : World) (h : PpSl w v p) : Calls Try.prog 19 #[v] w fun e w' => e = .returned (.bool p.ok) ∧ Below w.heap.size w w' := by
  obtain ⟨u, rfl, hu⟩ := h
  obtain ⟨vv, hvv⟩ : ∃ vv, vv = Value.agg #[.int .i64 p.c, u] := ⟨_, rfl⟩
  rw [← hvv]
  have HO : Hid (p.ok = (p.l.all Nt.ok && (inn p.c 1 8 && decide ((p.l.length : Int) ≤ p.c)))) := show _ = _ from rfl
  have HU : Hid (SlF fN w u p.l) := hu
  obtain ⟨a, c, rfl, -, hlc, hcm, -⟩ := hu
  unfold maxLen at hcm
  go_enter Try.func19, Try.ntmps19
  go_wp2_with (refine box_pp rfl rfl hvv ?_; intro w0 r0 b0; have HB : Hid (Row w0 w.heap.size #[.int .i64 p.c, .slice a p.l.length c] 26 ∧ Gin w (.slice a p.l.length c) p.l w0) := ⟨r0, HU.out.below b0, b0⟩; clear r0 b0)
  go_loopw [3] (fun i wr => ∃ k : Nat, k ≤ p.l.length ∧ i = .int .i64 k ∧ (p.l.take k).all Nt.ok = true ∧ Row wr w.heap.size #[.int .i64 p.c, .slice a p.l.length c] 26 ∧ Gin w (.slice a p.l.length c) p.l wr) (fun i _ => p.l.length - (intOf i).toNat)
  case atStart => exact ⟨0, Nat.zero_le _, rfl, rfl, HB.out.1, HB.out.2⟩
  case round =>
    obtain ⟨k, hk, rfl, hall, r1, hG⟩ := hrel
    have HH : Hid ((p.l.take k).all Nt.ok = true) := hall
    clear hall
    have c0 : wr.cell? ⟨w.heap.size, 0, none⟩ = some (.int .i64 p.c) := r1.cell 0
    have c1 : wr.cell? ⟨w.heap.size, 1, none⟩ = some (.slice a p.l.length c) := r1.cell 1
    by_cases hlt : k < p.l.length
    · obtain ⟨b, off, c', e, -, -, -⟩ := hG.sl.shape (by omega)
      simp only [Value.slice.injEq] at e
      obtain ⟨rfl, -, rfl⟩ := e
      have hat := atN hlt
      generalize hn : Nt.at' p.l k = n at hat
      have HT : Hid ((p.l.take (k + 1)).all Nt.ok = ((p.l.take k).all Nt.ok && n.ok)) := show _ = _ by
        rw [List.take_add_one, hat]; simp
      cases hok : n.ok
      · have HF : Hid (p.ok = false) := show _ = _ by
          have : p.l.all Nt.ok = false := by
            rw [List.all_eq_false]
            exact ⟨n, List.mem_of_getElem? hat, by simp [hok]⟩
          rw [HO.out, this]; rfl
        go_wp2_with (first
          | (refine ixF okN (r := k) rfl rfl rfl rfl hlt ?_)
          | (refine elF okN rfl rfl rfl (hG.sl.range okN hat) ?_)
          | (go_at_call 17; refine (noteOk_spec n _).mono ?_; rintro e w2 ⟨rfl, hb2⟩; rw [hok]))
        go_ret
        exact ⟨ret_bool HF.out.symm, below_more hG.bel hb2⟩
      · go_wp2_with (first
          | (refine ixF okN (r := k) rfl rfl rfl rfl hlt ?_)
          | (refine elF okN rfl rfl rfl (hG.sl.range okN hat) ?_)
          | (go_at_call 17; refine (noteOk_spec n _).mono ?_; rintro e w2 ⟨rfl, hb2⟩; rw [hok]))
        go_roundw
        case rel => exact ⟨k + 1, by omega, by go_num, by rw [HT.out, HH.out, hok]; rfl, r1.below hb2, hG.below hb2⟩
        case measure => simp [intOf]; omega
    · have HF : Hid (p.ok = (inn p.c 1 8 && decide ((p.l.length : Int) ≤ p.c))) := show _ = _ by
        have e := HH.out
        rw [List.take_of_length_le (by omega)] at e
        rw [HO.out, e]; rfl
      cases h0 : inn p.c 1 8
      · go_wp2_with (go_at_call 37; refine (Tmr.in_any _ _ _ _).mono ?_; rintro e w2 ⟨rfl, rfl⟩; rw [h0])
        go_ret
        exact ⟨ret_bool (by rw [HF.out, h0]; rfl), hG.bel⟩
      · go_wp2_with (go_at_call 37; refine (Tmr.in_any _ _ _ _).mono ?_; rintro e w2 ⟨rfl, rfl⟩; rw [h0])
        go_ret
        exact ⟨ret_bool (by rw [HF.out, h0]; rfl), hG.bel⟩
/-- What is told of the operations that copy a pipe's notes. -/
def kCp (n1 g1 : Nat) (c : Int) (u : Value) (l : List Nt) : List (Value → World → Prop) :=
  [KIs (.pointer (some ⟨g1, 0, none⟩)), KIs (.int .i64 c), fun v W => ∃ b, v = .slice (some ⟨b, 0, none⟩) 0 0 ∧ OwnF fN n1 W v [], KIs (.pointer (some ⟨g1, 1, none⟩)), KIs u, fun v W => OwnF fN n1 W v l,
   fun v W => ∃ v', v = .agg #[.int .i64 c, v'] ∧ OwnF fN n1 W v' l]
theorem kCp_keep {n1 g1 : Nat} {c : Int} {u : Value} {l : List Nt} (j : Nat) (v : Value) (W W' : World) (h : (kCp n1 g1 c u l).getD j KAny v W) (hk : ∀ p, n1 ≤ p → p < W.heap.size → W'.heap[p]? = W.heap[p]?) : (kCp n1 g1 c u l).getD j KAny v W' := by
  have key : ∀ {x : Value} {us : List Nt}, OwnF fN n1 W x us → OwnF fN n1 W' x us := fun h => h.kept fun p hp => hk p (h.lt p hp).1 (h.lt p hp).2
  rcases j with _ | _ | _ | _ | _ | _ | _ | j
  all_goals first | exact h | exact key h | skip
  · obtain ⟨b, e, h1⟩ := h
    exact ⟨b, e, key h1⟩
  · obtain ⟨x, e, h1⟩ := h
    exact ⟨x, e, key h1⟩
/-- What stands while a pipe is copied. -/
structure Gcp (w : World) (g1 g2 n1 : Nat) (c : Int) (u : Value) (l : List Nt) (L : Bool) (W : World) : Prop where
  arg : Row W g1 #[.int .i64 c, u] 26
  sl : SlF fN W u l
  bel : Below w.heap.size w W
  sz : n1 ≤ W.heap.size
  res : if L then ∃ v, Row W g2 #[.int .i64 c, v] 26 ∧ OwnF fN n1 W v l else Row W g2 #[.int .i64 0, .slice none 0 0] 26
theorem Gcp.below {w W W' : World} {g1 g2 n1 : Nat} {c : Int} {u : Value} {l : List Nt} {L : Bool} (h : Gcp w g1 g2 n1 c u l L W) (hb : Below W.heap.size W W') : Gcp w g1 g2 n1 c u l L W' := by
  refine ⟨h.arg.below hb, h.sl.below hb, below_more h.bel hb, Nat.le_trans h.sz hb.size, ?_⟩
  have := h.res
  cases L
  · exact Row.below this hb
  · obtain ⟨v, q1, q2⟩ := this
    exact ⟨v, q1.below hb, q2.below hb⟩
theorem built_pp (x y : Value) (h1 : x.oneCell' = true) (h2 : y.oneCell' = true) : Try.prog.built 26 [(0, x), (1, y)] = some #[x, y] := by
  cases x <;> first | (simp [Value.oneCell'] at h1; done) | (cases y <;> first | (simp [Value.oneCell'] at h2; done) | kernel_rfl)
theorem l12Copy_spec (v : Value) (p : Pp) (w : World) (h : PpSl w v p) (hl : p.l.length ≤ 1000) :
    Calls Try.prog 34 #[v] w fun e w' => ∃ u', e = .returned (.agg #[.int .i64 p.c, u']) ∧ OwnF fN w.heap.size w' u' p.l ∧ Below w.heap.size w w' := by
  obtain ⟨u, rfl, hu⟩ := h
  obtain ⟨vv, hvv⟩ : ∃ vv, vv = Value.agg #[.int .i64 p.c, u] := ⟨_, rfl⟩
  rw [← hvv]
  go_enter Try.func34, Try.ntmps34
  go_wp2_with (first
    | (refine box_pp rfl rfl hvv ?_; intro w1 r1 b1)
    | (refine al_pp rfl rfl ?_; intro w2 r2 b2))
  have l1 := r1.lt
  have l2 := r2.lt
  have s1 := b1.size
  obtain ⟨n1, hn1⟩ : ∃ n1, w2.heap.size = n1 := ⟨_, rfl⟩
  have hu0 : 0 < p.l.length → ∀ k, u.ownBlock = some k → k < w.heap.size := hu.lt
  have h0 : Gcp w w.heap.size w1.heap.size n1 p.c u p.l false w2 := ⟨r1.below b2, (hu.below b1).below b2, below_more b1 b2, by omega, r2⟩
  clear r1 r2 hu
  refine region_km (by kernel_rfl) (by kernel_rfl) (by kernel_rfl) (fun L W => Gcp w w.heap.size w1.heap.size n1 p.c u p.l (L 7) W) (fun j => (kCp n1 w.heap.size p.c u p.l).getD j KAny) (fun L L' W hL h => by rw [← hL 7 (by decide)]; exact h) (h0.below (drew_below (n := 1) rfl)) ?step ?done
  case step =>
    intro L ix o A W hi hI hLi hd
    have hin : ix < 8 := by
      by_cases hl : ix < 8
      · exact hl
      · simp [hl] at hi
    have hsz : A.tmps.size = 10 := hI.size
    have hg : Gcp w w.heap.size w1.heap.size n1 p.c u p.l (L 7) W := hI.j.1
    have go : ∀ {W'} , Below W.heap.size W W' → ∀ j v, (kCp n1 w.heap.size p.c u p.l).getD j KAny v W → (kCp n1 w.heap.size p.c u p.l).getD j KAny v W' := fun hb j v hk => kCp_keep j v _ _ hk fun p _ hp => hb.block p hp
    rcases ix with _ | _ | _ | _ | _ | _ | _ | _ | ix
    · cases hi
      have e1 : A.eval (.tmp 1) = .pointer (some ⟨w.heap.size, 0, none⟩) := hI.old 1 (by kernel_rfl)
      refine at_op rfl rfl (val_op (v := .pointer (some ⟨w.heap.size, 0, none⟩)) ?_ ⟨_, rfl, by simpa using hg, fun _ _ h => h, fun _ => rfl⟩)
      unfold execOp
      simp only [List.getElem_toArray, List.getElem_cons_zero, List.getElem_cons_succ, e1]
      simp [go_sem]
    · cases hi
      have e1 : A.eval (.tmp 3) = .pointer (some ⟨w.heap.size, 0, none⟩) := hI.km hd 0 3 rfl rfl (by kernel_rfl)
      have c0 : W.cell? ⟨w.heap.size, 0, none⟩ = some (.int .i64 p.c) := hg.arg.cell 0
      refine at_op rfl rfl (val_op (v := .int .i64 p.c) ?_ ⟨_, rfl, by simpa using hg, fun _ _ h => h, fun _ => rfl⟩)
      unfold execOp
      simp only [List.getElem_toArray, List.getElem_cons_zero, List.getElem_cons_succ, e1]
      simp [go_sem, c0]
    · cases hi
      refine at_op rfl rfl (noneF_op okN rfl ?_)
      intro W' ho hb
      exact ⟨_, rfl, by simpa using hg.below hb, go hb, fun _ => ⟨_, rfl, ho.mono hg.sz⟩⟩
    · cases hi
      have e1 : A.eval (.tmp 1) = .pointer (some ⟨w.heap.size, 0, none⟩) := hI.old 1 (by kernel_rfl)
      refine at_op rfl rfl (val_op (v := .pointer (some ⟨w.heap.size, 1, none⟩)) ?_ ⟨_, rfl, by simpa using hg, fun _ _ h => h, fun _ => rfl⟩)
      unfold execOp
      simp only [List.getElem_toArray, List.getElem_cons_zero, List.getElem_cons_succ, e1]
      simp [go_sem]
    · cases hi
      have e1 : A.eval (.tmp 6) = .pointer (some ⟨w.heap.size, 1, none⟩) := hI.km hd 3 6 rfl rfl (by kernel_rfl)
      have c0 : W.cell? ⟨w.heap.size, 1, none⟩ = some (u) := hg.arg.cell 1
      refine at_op rfl rfl (val_op (v := u) ?_ ⟨_, rfl, by simpa using hg, fun _ _ h => h, fun _ => rfl⟩)
      unfold execOp
      simp only [List.getElem_toArray, List.getElem_cons_zero, List.getElem_cons_succ, e1]
      simp [go_sem, c0]
    · cases hi
      obtain ⟨b, e1, h1⟩ : ∃ b, A.eval (.tmp 5) = .slice (some ⟨b, 0, none⟩) 0 0 ∧ OwnF fN n1 W (A.eval (.tmp 5)) [] := hI.km hd 2 5 rfl rfl (by kernel_rfl)
      have e2 : A.eval (.tmp 7) = u := hI.km hd 4 7 rfl rfl (by kernel_rfl)
      rw [e1] at h1
      refine at_op rfl rfl (appZ_op okN rfl e1 h1 (by rw [e2]; exact hg.sl) (by omega) hg.sz ?_)
      intro v' W' ho hb
      exact ⟨_, rfl, by simpa using hg.below hb, go hb, fun _ => ho⟩
    · cases hi
      have e1 : A.eval (.tmp 4) = .int .i64 p.c := hI.km hd 1 4 rfl rfl (by kernel_rfl)
      have h5 : OwnF fN n1 W (A.eval (.tmp 8)) p.l := hI.km hd 5 8 rfl rfl (by kernel_rfl)
      exact at_op rfl rfl (build_op (parts := [(0, .tmp 4), (1, .tmp 8)]) (vals := [(0, A.eval (.tmp 4)), (1, A.eval (.tmp 8))]) (cs := #[A.eval (.tmp 4), A.eval (.tmp 8)]) rfl rfl (built_pp _ _ (by rw [e1]; rfl) (h5.one okN)) ⟨_, rfl, by simpa using hg, fun _ _ h => h, fun _ => ⟨_, by rw [e1], h5⟩⟩)
    · cases hi
      have e1 : A.eval (.tmp 2) = .pointer (some ⟨w1.heap.size, 0, none⟩) := hI.old 2 (by kernel_rfl)
      obtain ⟨v', e2, h6⟩ : ∃ v', A.eval (.tmp 9) = .agg #[.int .i64 p.c, v'] ∧ OwnF fN n1 W v' p.l := hI.km hd 6 9 rfl rfl (by kernel_rfl)
      have hr : Row W w1.heap.size #[.int .i64 0, .slice none 0 0] 26 := by have := hg.res; rw [hLi] at this; exact this
      have o1 := h6.one okN
      unfold Value.oneCell' at o1
      have hon : Onto w1.heap.size W (W.setRow w1.heap.size #[.int .i64 p.c, v']) := ⟨rfl, rfl, rfl, by simp, fun k hk _ => setRow_other W w1.heap.size k _ hk⟩
      have hkk : ∀ q, n1 ≤ q → q < W.heap.size → (W.setRow w1.heap.size #[.int .i64 p.c, v']).heap[q]? = W.heap[q]? := fun q hq hl => hon.block q (by omega) hl
      refine at_op rfl rfl (wp_store_row _ _ _ rfl w1.heap.size #[.int .i64 p.c, v'] e1 e2 _ _ hr.row info_pp rfl (by simp only [List.all_toArray, List.all_cons, List.all_nil, Value.oneCell', o1, Bool.and_true]) ⟨_, rfl, ⟨hg.arg.onto hon (by omega), ?_, below_onto hg.bel hon (by omega), Nat.le_trans hg.sz hon.size, ?_⟩, fun j v hk => kCp_keep j v _ _ hk hkk, fun h => absurd rfl h⟩)
      · exact hg.sl.moved hon.size fun h0 k hk => hon.block k (by have := hu0 h0 k hk; omega) (hg.sl.lt h0 k hk)
      · simp only [BEq.rfl, Bool.or_true, if_true]
        exact ⟨v', Row.of (setRow_heap W w1.heap.size _ _ _ _ hr.row), h6.kept fun q hq => hkk q (h6.lt q hq).1 (h6.lt q hq).2⟩
    · omega
  case done =>
    intro A W hI hS
    have hg : Gcp w w.heap.size w1.heap.size n1 p.c u p.l true W := hS
    obtain ⟨v', q1, q2⟩ := hg.res
    have hA := hI.frame [3, 4, 5, 6, 7, 8, 9] (by kernel_rfl)
    rw [hA]
    simp only [putAll, List.foldl_cons, List.foldl_nil, Act.put, List.setIfInBounds_toArray, List.set_cons_zero, List.set_cons_succ]
    clear hA hI
    go_wp2
    refine ret_row rfl rfl q1 Try.underlying26 rfl info_pp rfl ?_
    exact ⟨v', rfl, q2.mono (by omega), hg.bel⟩
end Go.Proofs.Ytggfjghcgacdnaa.Mem
