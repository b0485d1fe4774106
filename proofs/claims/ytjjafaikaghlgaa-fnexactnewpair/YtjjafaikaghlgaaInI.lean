/-
  Inboxes: the program's InboxOk, and the library's own functions that it calls.
-/
import Derived.Test.YtjjafaikaghlgaaInb
namespace Go.Proofs.Ytjjafaikaghlgaa.Mem
open Go.ChangeShapes Go.WideShapes Go.RowKit Base Num Slc Slf Rw Tmr Reg
set_option linter.unusedVariables false
set_option linter.unusedSimpArgs false
set_option maxRecDepth 20000

/-- A function as a value. -/
def fnv (f : FuncId) : Value := .func (.func f) #[] #[]
section
variable {ops : Array Oper} {rest : List Oper} {o : Oper} {a : Act} {w : World} {K : Act → World → Prop} {Q : Exit → Act → World → Prop} {f : FuncId} {fn : Func} {x : Operand} {tys : Array TypeId}
theorem callv_op {args : List Operand} (ho : o.op = .call { callee := .value x, args := args.toArray, argTypes := tys }) (hx : a.eval x = fnv f) (hf : Try.prog.funcs[f]? = some fn) (hn : (fn.name == "runtime.NumGoroutine") = false) (hb : fn.body.isNone = false)
    (h : Calls Try.prog f (args.map a.eval).toArray w fun e w' => ∃ v, e = .returned v ∧ K (a.put o.dst v) w') : o.wp Try.prog a w K Q := by
  unfold Oper.wp execOp
  have hn' : ¬ fn.name = "runtime.NumGoroutine" := by simpa using hn
  have hb' : ¬ fn.body = none := fun e => by simp [e] at hb
  have e : (do let d ← resolve a.eval { callee := .value x, args := args.toArray, argTypes := tys } o.type; invoke d.target d.args : Sem Next).run Try.prog w = .ok (.enter f (args.map a.eval).toArray) w := by
    simp [resolve, hx, fnv, Deferred.ofValue, invoke, callFunc, hf, hn', hb']
  rw [ho]
  show o.upon Try.prog a _ Q ((do let d ← resolve a.eval { callee := .value x, args := args.toArray, argTypes := tys } o.type; invoke d.target d.args : Sem Next).run Try.prog w)
  rw [e, Oper.upon_enter]
  refine h.mono ?_
  rintro e w' ⟨v, rfl, hk⟩
  exact hk
theorem callv {args : List Operand} (hgd : o.guard = none) (ho : o.op = .call { callee := .value x, args := args.toArray, argTypes := tys }) (hx : a.eval x = fnv f) (hf : Try.prog.funcs[f]? = some fn) (hn : (fn.name == "runtime.NumGoroutine") = false) (hb : fn.body.isNone = false)
    (h : Calls Try.prog f (args.map a.eval).toArray w fun e w' => ∃ v, e = .returned v ∧ wpList Try.prog ops Q rest (a.put o.dst v) w') : wpList Try.prog ops Q (o :: rest) a w :=
  wpList_plain hgd fun K' hK => callv_op ho hx hf hn hb (h.mono fun e w' ⟨v, hv, hk⟩ => ⟨v, hv, hK _ _ hk⟩)
end
def cmp3 (a b : Int) : Int := if a < b then -1 else if b < a then 1 else 0
def ord (a b : M3) : Int := if cmp3 a.t b.t = 0 then cmp3 a.k b.k else cmp3 a.t b.t
theorem cmp3_in (a b : Int) : -1 ≤ cmp3 a b ∧ cmp3 a b ≤ 1 := by
  unfold cmp3
  repeat' split
  all_goals omega
theorem ord_in (a b : M3) : -1 ≤ ord a b ∧ ord a b ≤ 1 := by
  unfold ord
  split
  · exact cmp3_in _ _
  · exact cmp3_in _ _
theorem ord_neg (a b : M3) : decide (ord a b < 0) = later b a := by
  rw [Bool.eq_iff_iff]
  unfold ord cmp3 later
  simp only [decide_eq_true_eq, Bool.or_eq_true, Bool.and_eq_true, beq_iff_eq]
  repeat' split
  all_goals omega
theorem ord_le (a b : M3) : decide (ord a b ≤ 0) = !later a b := by
  rw [Bool.eq_iff_iff]
  unfold ord cmp3 later
  simp only [decide_eq_true_eq, Bool.not_eq_true', Bool.or_eq_false_iff, Bool.and_eq_false_iff, beq_eq_false_iff_ne, ne_eq, decide_eq_false_iff_not]
  repeat' split
  all_goals omega
theorem isNaN_any (n : Int) (w : World) : Calls Try.prog 110 #[.int .i64 n] w fun e w' => e = .returned (.bool false) ∧ w' = w := by
  go_enter Try.func110, Try.ntmps110
  go_wp2
  go_ret
  exact ⟨ret_bool (by simp), rfl⟩
theorem compare_any (a b : Int) (w : World) : Calls Try.prog 103 #[.int .i64 a, .int .i64 b] w fun e w' => e = .returned (.int .i64 (cmp3 a b)) ∧ w' = w := by
  have HC : Hid (cmp3 a b = if a < b then -1 else if b < a then 1 else 0) := show _ = _ from rfl
  generalize cmp3 a b = r at HC ⊢
  by_cases h1 : a < b
  · go_enter Try.func103, Try.ntmps103
    go_wp2_with (go_at_call 110; refine (isNaN_any _ _).mono ?_; rintro e w1 ⟨rfl, rfl⟩)
    go_ret
    exact ⟨ret_int (by rw [HC.out]; split <;> (try split) <;> omega), rfl⟩
  · by_cases h2 : b < a
    · go_enter Try.func103, Try.ntmps103
      go_wp2_with (go_at_call 110; refine (isNaN_any _ _).mono ?_; rintro e w1 ⟨rfl, rfl⟩)
      go_ret
      exact ⟨ret_int (by rw [HC.out]; split <;> (try split) <;> omega), rfl⟩
    · go_enter Try.func103, Try.ntmps103
      go_wp2_with (go_at_call 110; refine (isNaN_any _ _).mono ?_; rintro e w1 ⟨rfl, rfl⟩)
      go_ret
      exact ⟨ret_int (by rw [HC.out]; split <;> (try split) <;> omega), rfl⟩
/-- A list of two numbers. -/
def KTwo (x y : Int) (v : Value) (w : World) : Prop := ∃ b, v = .slice (some ⟨b, 0, none⟩) 2 2 ∧ w.cell? ⟨b, 0, none⟩ = some (.int .i64 x) ∧ w.cell? ⟨b, 1, none⟩ = some (.int .i64 y)
theorem bears_two (x y : Int) : Bears (fun _ => False) (KTwo x y) := fun v w w' ⟨b, e, h0, h1⟩ hr => by
  have hb := hr.2 b id (cell_lt h0)
  exact ⟨b, e, by rw [World.cell?_of_block (w := w) (a := ⟨b, 0, none⟩) hb]; exact h0, by rw [World.cell?_of_block (w := w) (a := ⟨b, 1, none⟩) hb]; exact h1⟩
theorem or_two (x y : Int) (b : Nat) (w : World) (h0 : w.cell? ⟨b, 0, none⟩ = some (.int .i64 x)) (h1 : w.cell? ⟨b, 1, none⟩ = some (.int .i64 y)) :
    Calls Try.prog 102 #[.slice (some ⟨b, 0, none⟩) 2 2] w fun e w' => e = .returned (.int .i64 (if x = 0 then y else x)) ∧ w' = w := by
  by_cases hx : x = 0
  · rw [if_pos hx]
    by_cases hy : y = 0
    · subst hx hy
      go_enter Try.func102, Try.ntmps102
      go_wp2
      refine wp_loop_rounds 3 ?_
      rw [rounds_succ]
      go_wp2
      rw [rounds_succ]
      go_wp2
      rw [rounds_succ]
      go_wp2
      go_ret
      exact ⟨rfl, rfl⟩
    · subst hx
      have hy' : (y != 0) = true := by simpa using hy
      go_enter Try.func102, Try.ntmps102
      go_wp2
      refine wp_loop_rounds 2 ?_
      rw [rounds_succ]
      go_wp2
      rw [rounds_succ]
      go_wp2
      go_ret
      exact ⟨rfl, rfl⟩
  · rw [if_neg hx]
    have hx' : (x != 0) = true := by simpa using hx
    go_enter Try.func102, Try.ntmps102
    go_wp2
    refine wp_loop_rounds 1 ?_
    rw [rounds_succ]
    go_wp2
    go_ret
    exact ⟨rfl, rfl⟩
/-- Two messages in blocks of a call's own. -/
structure Gt (w : World) (g0 g1 : Nat) (a b : M3) (W : World) : Prop where
  ra : M3Row W g0 a
  rb : M3Row W g1 b
  bel : Below w.heap.size w W
theorem Gt.below {w W W' : World} {g0 g1 : Nat} {a b : M3} (h : Gt w g0 g1 a b W) (hb : Below W.heap.size W W') : Gt w g0 g1 a b W' := ⟨h.ra.below hb, h.rb.below hb, below_more h.bel hb⟩
theorem Gt.drew {w W : World} {g0 g1 : Nat} {a b : M3} (h : Gt w g0 g1 a b W) : Gt w g0 g1 a b W.drew := h.below (drew_below (n := 1) rfl)
theorem infoI : (Try.prog.info? 3).map (fun i => (i.zero, i.size, i.bytes)) = some (some (.int .i64 0), 1, 8) := by kernel_rfl
theorem undI : Try.prog.underlying 139 = some (.slice 3) := by kernel_rfl
theorem byTime_impl (a b : M3) (w : World) : Calls Try.prog 67 #[a.val, b.val] w fun e w' => e = .returned (.int .i64 (ord a b)) ∧ Below w.heap.size w w' := by
  obtain ⟨va, hva⟩ : ∃ va, va = a.val := ⟨_, rfl⟩
  obtain ⟨vb, hvb⟩ : ∃ vb, vb = b.val := ⟨_, rfl⟩
  rw [← hva, ← hvb]
  go_enter Try.func67, Try.ntmps67
  go_wp2_with (first
    | (refine box_m3 rfl rfl hva ?_; intro w0 r0 hB0)
    | (refine box_m3 rfl rfl hvb ?_; intro w1 r1 hB1; have hG : Gt w w.heap.size w0.heap.size a b w1 := ⟨r0.below hB1, r1, below_more hB0 hB1⟩))
  refine region_by (by kernel_rfl) (by kernel_rfl) (fun W => Gt w w.heap.size w0.heap.size a b W) (kinds [KIs (.pointer (some ⟨w.heap.size, 0, none⟩)), KIs (.int .i64 (a.t)), KIs (.pointer (some ⟨w0.heap.size, 0, none⟩)), KIs (.int .i64 (b.t)), KIs (.int .i64 (cmp3 a.t b.t)), KIs (.pointer (some ⟨w.heap.size, 1, none⟩)), KIs (.int .i64 (a.k)), KIs (.pointer (some ⟨w0.heap.size, 1, none⟩)), KIs (.int .i64 (b.k)), KIs (.int .i64 (cmp3 a.k b.k)), KTwo (cmp3 a.t b.t) (cmp3 a.k b.k), KIs (.int .i64 (ord a b)), KIs (.int .i64 (ord a b))]) (Rel fun _ => False) (by kernel_rfl) (kinds_mono ?mono) hG.drew ?step ?done
  case mono =>
    intro K hK
    simp only [List.mem_cons, List.not_mem_nil, or_false] at hK
    rcases hK with rfl | rfl | rfl | rfl | rfl | rfl | rfl | rfl | rfl | rfl | rfl | rfl | rfl
    all_goals first | exact bears_is _ _ | exact bears_two _ _
  case step =>
    intro L ix o' A W hj hI hL hd
    have hin : ix < 13 := by
      by_cases hl : ix < 13
      · exact hl
      · simp [hl] at hj
    have hsz : A.tmps.size = 17 := hI.size
    have hg := hI.g
    rcases ix with _ | ix
    · obtain rfl := (Option.some.inj hj).symm
      have e0 : A.eval (.tmp 2) = .pointer (some ⟨w.heap.size, 0, none⟩) := hI.old 2 (by kernel_rfl)
      refine at_op rfl rfl (val_op (v := .pointer (some ⟨w.heap.size, 0, none⟩)) ?_ ⟨_, rfl, rfl, hg, Rel.refl _ _⟩)
      unfold execOp
      simp only [List.getElem_toArray, List.getElem_cons_zero, List.getElem_cons_succ, e0]
      simp [go_sem]
    rcases ix with _ | ix
    · obtain rfl := (Option.some.inj hj).symm
      have e0 : A.eval (.tmp 5) = .pointer (some ⟨w.heap.size, 0, none⟩) := hI.get hd 0 5 rfl (by kernel_rfl)
      exact at_op rfl rfl (load_op rfl Try.underlying2 e0 (hg.ra.cell 0) ⟨_, rfl, rfl, hg, Rel.refl _ _⟩)
    rcases ix with _ | ix
    · obtain rfl := (Option.some.inj hj).symm
      have e0 : A.eval (.tmp 3) = .pointer (some ⟨w0.heap.size, 0, none⟩) := hI.old 3 (by kernel_rfl)
      refine at_op rfl rfl (val_op (v := .pointer (some ⟨w0.heap.size, 0, none⟩)) ?_ ⟨_, rfl, rfl, hg, Rel.refl _ _⟩)
      unfold execOp
      simp only [List.getElem_toArray, List.getElem_cons_zero, List.getElem_cons_succ, e0]
      simp [go_sem]
    rcases ix with _ | ix
    · obtain rfl := (Option.some.inj hj).symm
      have e0 : A.eval (.tmp 7) = .pointer (some ⟨w0.heap.size, 0, none⟩) := hI.get hd 2 7 rfl (by kernel_rfl)
      exact at_op rfl rfl (load_op rfl Try.underlying2 e0 (hg.rb.cell 0) ⟨_, rfl, rfl, hg, Rel.refl _ _⟩)
    rcases ix with _ | ix
    · obtain rfl := (Option.some.inj hj).symm
      have e0 : A.eval (.tmp 6) = .int .i64 (a.t) := hI.get hd 1 6 rfl (by kernel_rfl)
      have e1 : A.eval (.tmp 8) = .int .i64 (b.t) := hI.get hd 3 8 rfl (by kernel_rfl)
      refine at_op rfl rfl (call_op rfl Try.func103 (by kernel_rfl) (by kernel_rfl) ?_)
      simp only [List.map_cons, List.map_nil, e0, e1]
      refine (compare_any _ _ _).mono ?_
      rintro e W1 ⟨rfl, rfl⟩
      exact ⟨_, rfl, _, rfl, rfl, hg, Rel.refl _ _⟩
    rcases ix with _ | ix
    · obtain rfl := (Option.some.inj hj).symm
      have e0 : A.eval (.tmp 2) = .pointer (some ⟨w.heap.size, 0, none⟩) := hI.old 2 (by kernel_rfl)
      refine at_op rfl rfl (val_op (v := .pointer (some ⟨w.heap.size, 1, none⟩)) ?_ ⟨_, rfl, rfl, hg, Rel.refl _ _⟩)
      unfold execOp
      simp only [List.getElem_toArray, List.getElem_cons_zero, List.getElem_cons_succ, e0]
      simp [go_sem]
    rcases ix with _ | ix
    · obtain rfl := (Option.some.inj hj).symm
      have e0 : A.eval (.tmp 10) = .pointer (some ⟨w.heap.size, 1, none⟩) := hI.get hd 5 10 rfl (by kernel_rfl)
      exact at_op rfl rfl (load_op rfl Try.underlying2 e0 (hg.ra.cell 1) ⟨_, rfl, rfl, hg, Rel.refl _ _⟩)
    rcases ix with _ | ix
    · obtain rfl := (Option.some.inj hj).symm
      have e0 : A.eval (.tmp 3) = .pointer (some ⟨w0.heap.size, 0, none⟩) := hI.old 3 (by kernel_rfl)
      refine at_op rfl rfl (val_op (v := .pointer (some ⟨w0.heap.size, 1, none⟩)) ?_ ⟨_, rfl, rfl, hg, Rel.refl _ _⟩)
      unfold execOp
      simp only [List.getElem_toArray, List.getElem_cons_zero, List.getElem_cons_succ, e0]
      simp [go_sem]
    rcases ix with _ | ix
    · obtain rfl := (Option.some.inj hj).symm
      have e0 : A.eval (.tmp 12) = .pointer (some ⟨w0.heap.size, 1, none⟩) := hI.get hd 7 12 rfl (by kernel_rfl)
      exact at_op rfl rfl (load_op rfl Try.underlying2 e0 (hg.rb.cell 1) ⟨_, rfl, rfl, hg, Rel.refl _ _⟩)
    rcases ix with _ | ix
    · obtain rfl := (Option.some.inj hj).symm
      have e0 : A.eval (.tmp 11) = .int .i64 (a.k) := hI.get hd 6 11 rfl (by kernel_rfl)
      have e1 : A.eval (.tmp 13) = .int .i64 (b.k) := hI.get hd 8 13 rfl (by kernel_rfl)
      refine at_op rfl rfl (call_op rfl Try.func103 (by kernel_rfl) (by kernel_rfl) ?_)
      simp only [List.map_cons, List.map_nil, e0, e1]
      refine (compare_any _ _ _).mono ?_
      rintro e W1 ⟨rfl, rfl⟩
      exact ⟨_, rfl, _, rfl, rfl, hg, Rel.refl _ _⟩
    rcases ix with _ | ix
    · obtain rfl := (Option.some.inj hj).symm
      have e0 : A.eval (.tmp 9) = .int .i64 (cmp3 a.t b.t) := hI.get hd 4 9 rfl (by kernel_rfl)
      have e1 : A.eval (.tmp 14) = .int .i64 (cmp3 a.k b.k) := hI.get hd 9 14 rfl (by kernel_rfl)
      refine at_op rfl rfl (lit_op (vals := [(0, .int .i64 (cmp3 a.t b.t)), (1, .int .i64 (cmp3 a.k b.k))]) (cs := #[.int .i64 (cmp3 a.t b.t), .int .i64 (cmp3 a.k b.k)]) rfl undI infoI (by simp only [List.map_cons, List.map_nil, e0, e1]) (by omega) (by omega) (by kernel_rfl) ?_)
      exact ⟨_, rfl, ⟨W.heap.size, rfl, by rw [World.cell?_alloc_new]; rfl, by rw [World.cell?_alloc_new]; rfl⟩, hg.below ((Below.refl _ _).alloc (Nat.le_refl _) _), Rel.alloc _ _ _⟩
    rcases ix with _ | ix
    · obtain rfl := (Option.some.inj hj).symm
      have e0 : (KTwo (cmp3 a.t b.t) (cmp3 a.k b.k)) (A.eval (.tmp 15)) W := hI.get hd 10 15 rfl (by kernel_rfl)
      obtain ⟨bb, e1, h0, h1⟩ := e0
      refine at_op rfl rfl (call_op rfl Try.func102 (by kernel_rfl) (by kernel_rfl) ?_)
      simp only [List.map_cons, List.map_nil, e1]
      refine (or_two _ _ bb _ h0 h1).mono ?_
      rintro e W1 ⟨rfl, rfl⟩
      exact ⟨_, rfl, _, rfl, rfl, hg, Rel.refl _ _⟩
    rcases ix with _ | ix
    · obtain rfl := (Option.some.inj hj).symm
      have e0 : A.eval (.tmp 16) = .int .i64 (ord a b) := hI.get hd 11 16 rfl (by kernel_rfl)
      exact at_op rfl rfl (assign_op rfl ⟨_, rfl, e0, hg, Rel.refl _ _⟩)
    omega
  case done =>
    intro A W hI
    have hg := hI.g
    have s4 : A.tmps.getD 4 undef = .int .i64 (ord a b) := hI.slot 12 4 rfl rfl
    have hA := hI.frame [5, 6, 7, 8, 9, 10, 11, 12, 13, 14, 15, 16, 4] (by kernel_rfl)
    rw [hA]
    simp only [putAll, List.foldl_cons, List.foldl_nil, s4, Act.put, List.setIfInBounds_toArray, List.set_cons_zero, List.set_cons_succ]
    clear hA hI s4
    go_wp2
    go_ret
    exact ⟨rfl, hg.bel⟩
theorem arrivalOk_impl (n : Int) (w : World) : Calls Try.prog 100 #[.int .i64 n] w fun e w' => e = .returned (.bool (inn n 0 1000000100)) ∧ w' = w := by
  by_cases h0 : 0 ≤ n
  · go_enter Try.func100, Try.ntmps100
    go_wp2
    go_ret
    exact ⟨ret_bool (by simp [inn, h0]), rfl⟩
  · go_enter Try.func100, Try.ntmps100
    go_wp2
    go_ret
    exact ⟨ret_bool (by rw [Bool.eq_iff_iff]; simp [inn]; omega), rfl⟩
theorem bit_impl (n : Int) (w : World) : Calls Try.prog 101 #[.int .i64 n] w fun e w' => e = .returned (.bool (inn n 0 1)) ∧ w' = w := by
  by_cases h0 : n = 0
  · subst h0
    go_enter Try.func101, Try.ntmps101
    go_wp2
    go_ret
    exact ⟨rfl, rfl⟩
  · go_enter Try.func101, Try.ntmps101
    go_wp2
    go_ret
    exact ⟨ret_bool (by rw [Bool.eq_iff_iff]; simp [inn]; omega), rfl⟩
theorem msgWrong_impl (m : M3) (w : World) : Calls Try.prog 65 #[m.val] w fun e w' => e = .returned (.bool (!m.ok)) ∧ Below w.heap.size w w' := by
  obtain ⟨vv, hvv⟩ : ∃ vv, vv = m.val := ⟨_, rfl⟩
  have HO : Hid (m.ok = (inn m.t 0 1000000100 && (if m.k = 1 ∨ m.k = 2 then inn m.v 0 1 else if m.k = 3 then bok m.v else false))) := show _ = _ from rfl
  rw [← hvv]
  cases h0 : inn m.t 0 1000000100
  · go_enter Try.func65, Try.ntmps65
    go_wp2_with (first
      | (refine box_m3 rfl rfl hvv ?_; intro w0 r0 hB0; have c0 : w0.cell? ⟨w.heap.size, 0, none⟩ = some (.int .i64 m.t) := r0.cell 0)
      | (go_at_call 100; refine (arrivalOk_impl _ _).mono ?_; rintro e w2 ⟨rfl, rfl⟩; rw [h0]))
    go_ret
    exact ⟨ret_bool (by rw [HO.out, h0]; rfl), hB0⟩
  · by_cases k1 : m.k = 1
    · go_enter Try.func65, Try.ntmps65
      go_wp2_with (first
        | (refine box_m3 rfl rfl hvv ?_; intro w0 r0 hB0; have c0 : w0.cell? ⟨w.heap.size, 0, none⟩ = some (.int .i64 m.t) := r0.cell 0; have c1 : w0.cell? ⟨w.heap.size, 1, none⟩ = some (.int .i64 m.k) := r0.cell 1; rw [k1] at c1; have c2 : w0.cell? ⟨w.heap.size, 2, none⟩ = some (.int .i64 m.v) := r0.cell 2)
        | (go_at_call 100; refine (arrivalOk_impl _ _).mono ?_; rintro e w2 ⟨rfl, rfl⟩; rw [h0])
        | (go_at_call 101; refine (bit_impl _ _).mono ?_; rintro e w2 ⟨rfl, rfl⟩))
      go_ret
      exact ⟨ret_bool (by rw [HO.out, h0, if_pos (.inl k1)]; simp), hB0⟩
    by_cases k2 : m.k = 2
    · go_enter Try.func65, Try.ntmps65
      go_wp2_with (first
        | (refine box_m3 rfl rfl hvv ?_; intro w0 r0 hB0; have c0 : w0.cell? ⟨w.heap.size, 0, none⟩ = some (.int .i64 m.t) := r0.cell 0; have c1 : w0.cell? ⟨w.heap.size, 1, none⟩ = some (.int .i64 m.k) := r0.cell 1; rw [k2] at c1; have c2 : w0.cell? ⟨w.heap.size, 2, none⟩ = some (.int .i64 m.v) := r0.cell 2)
        | (go_at_call 100; refine (arrivalOk_impl _ _).mono ?_; rintro e w2 ⟨rfl, rfl⟩; rw [h0])
        | (go_at_call 101; refine (bit_impl _ _).mono ?_; rintro e w2 ⟨rfl, rfl⟩))
      go_ret
      exact ⟨ret_bool (by rw [HO.out, h0, if_pos (.inr k2)]; simp), hB0⟩
    by_cases k3 : m.k = 3
    · go_enter Try.func65, Try.ntmps65
      go_wp2_with (first
        | (refine box_m3 rfl rfl hvv ?_; intro w0 r0 hB0; have c0 : w0.cell? ⟨w.heap.size, 0, none⟩ = some (.int .i64 m.t) := r0.cell 0; have c1 : w0.cell? ⟨w.heap.size, 1, none⟩ = some (.int .i64 m.k) := r0.cell 1; rw [k3] at c1; have c2 : w0.cell? ⟨w.heap.size, 2, none⟩ = some (.int .i64 m.v) := r0.cell 2)
        | (go_at_call 100; refine (arrivalOk_impl _ _).mono ?_; rintro e w2 ⟨rfl, rfl⟩; rw [h0])
        | (go_at_call 60; refine (byteOk_impl _ _).mono ?_; rintro e w2 ⟨rfl, rfl⟩))
      go_ret
      exact ⟨ret_bool (by rw [HO.out, h0, if_neg (by omega), if_pos k3]; simp), hB0⟩
    have b1 : (m.k == 1) = false := by simpa using k1
    have b2 : (m.k == 2) = false := by simpa using k2
    have b3 : (m.k == 3) = false := by simpa using k3
    go_enter Try.func65, Try.ntmps65
    go_wp2_with (first
      | (refine box_m3 rfl rfl hvv ?_; intro w0 r0 hB0; have c0 : w0.cell? ⟨w.heap.size, 0, none⟩ = some (.int .i64 m.t) := r0.cell 0; have c1 : w0.cell? ⟨w.heap.size, 1, none⟩ = some (.int .i64 m.k) := r0.cell 1; have c2 : w0.cell? ⟨w.heap.size, 2, none⟩ = some (.int .i64 m.v) := r0.cell 2)
      | (go_at_call 100; refine (arrivalOk_impl _ _).mono ?_; rintro e w2 ⟨rfl, rfl⟩; rw [h0]))
    go_ret
    exact ⟨ret_bool (by rw [HO.out, h0, if_neg (by omega), if_neg k3]; simp), hB0⟩
theorem indexWrong_impl (v : Value) (l : List M3) (w : World) (h : SlF fM w v l) :
    Calls Try.prog 99 #[v, fnv 65] w fun e w' => ∃ z : Int, e = .returned (.int .i64 z) ∧ decide (0 ≤ z) = l.any (fun m => !m.ok) ∧ Below w.heap.size w w' := by
  by_cases h0 : 0 < l.length
  · obtain ⟨b, off, c, rfl, hbl, hlc, hcm⟩ := h.shape h0
    unfold maxLen at hcm
    have hG : Gi w (.slice (some ⟨b, off, none⟩) l.length c) l w := ⟨h, Below.refl _ _⟩
    clear h hbl
    go_enter Try.func99, Try.ntmps99
    go_wp2_with fail
    go_loopw [8] (fun i wr => ∃ k : Nat, k ≤ l.length ∧ i = .int .i64 k ∧ (∀ j, j < k → (M3.at' l j).ok = true) ∧ Gi w (.slice (some ⟨b, off, none⟩) l.length c) l wr) (fun i _ => l.length - (intOf i).toNat)
    case atStart => exact ⟨0, Nat.zero_le _, rfl, fun j hj => by omega, hG⟩
    case round =>
      clear hG
      obtain ⟨k, hk, rfl, hall, hG⟩ := hrel
      by_cases hlt : k < l.length
      · cases hok : (M3.at' l k).ok
        · have HF : Hid (l.any (fun m => !m.ok) = true) := show _ = _ by
            rw [List.any_eq_true]
            exact ⟨M3.at' l k, List.mem_of_getElem? (at_some hlt), by simp [hok]⟩
          clear hall
          go_wp2_with (first
            | (refine ixF okM (r := k) rfl rfl rfl rfl hlt ?_)
            | (refine elF okM rfl rfl rfl (hG.sl.range okM (at_some hlt)) ?_)
            | (refine callv (args := [.tmp 15]) rfl rfl rfl Try.func65 (by kernel_rfl) (by kernel_rfl) ?_; refine (msgWrong_impl (M3.at' l k) _).mono ?_; rintro e w1 ⟨rfl, hb1⟩; refine ⟨_, rfl, ?_⟩; rw [hok]))
          go_ret
          exact ⟨_, rfl, by rw [HF.out]; simp, below_more hG.bel hb1⟩
        · have HK : Hid (∀ j, j < k + 1 → (M3.at' l j).ok = true) := show ∀ _, _ from fun j hj => by
            by_cases e : j = k
            · rw [e]; exact hok
            · exact hall j (by omega)
          clear hall
          go_wp2_with (first
            | (refine ixF okM (r := k) rfl rfl rfl rfl hlt ?_)
            | (refine elF okM rfl rfl rfl (hG.sl.range okM (at_some hlt)) ?_)
            | (refine callv (args := [.tmp 15]) rfl rfl rfl Try.func65 (by kernel_rfl) (by kernel_rfl) ?_; refine (msgWrong_impl (M3.at' l k) _).mono ?_; rintro e w1 ⟨rfl, hb1⟩; refine ⟨_, rfl, ?_⟩; rw [hok]))
          go_roundw
          case rel => exact ⟨k + 1, by omega, by go_num, HK.out, hG.below hb1⟩
          case measure => simp [intOf]; omega
      · have HF : Hid (l.any (fun m => !m.ok) = false) := show _ = _ by
          rw [List.any_eq_false]
          intro x hx
          obtain ⟨j, hj, rfl⟩ := List.mem_iff_getElem.1 hx
          have := hall j (by omega)
          unfold M3.at' at this
          rw [List.getD_eq_getElem?_getD, List.getElem?_eq_getElem hj] at this
          simpa using this
        have hbel := hG.bel
        clear hall
        go_wp2
        go_ret
        exact ⟨_, rfl, by rw [HF.out]; simp, hbel⟩
  · obtain ⟨a, cap, rfl, h1⟩ := h
    have hl : l = [] := List.eq_nil_of_length_eq_zero (by omega)
    subst hl
    go_enter Try.func99, Try.ntmps99
    go_wp2_with fail
    go_loopw [8] (fun i wr => i = .int .i64 0 ∧ wr = w) (fun i _ => 0)
    case atStart => exact ⟨rfl, rfl⟩
    case round =>
      obtain ⟨rfl, rfl⟩ := hrel
      go_wp2
      go_ret
      exact ⟨_, rfl, by simp, Below.refl _ _⟩
theorem containsWrong_impl (v : Value) (l : List M3) (w : World) (h : SlF fM w v l) :
    Calls Try.prog 64 #[v, fnv 65] w fun e w' => e = .returned (.bool (l.any (fun m => !m.ok))) ∧ Below w.heap.size w w' := by
  generalize hr : l.any (fun m => !m.ok) = r
  have HR : Hid (l.any (fun m => !m.ok) = r) := hr
  clear hr
  obtain ⟨fv, hfv⟩ : ∃ fv, fv = fnv 65 := ⟨_, rfl⟩
  rw [← hfv]
  go_enter Try.func64, Try.ntmps64
  go_wp2_with (go_at_call 99; rw [hfv]; refine (indexWrong_impl _ _ _ h).mono ?_; rintro e w1 ⟨z, rfl, hz, hb1⟩)
  go_ret
  exact ⟨ret_bool (by rw [← HR.out, ← hz]), hb1⟩
theorem sorted_impl (v : Value) (l : List M3) (w : World) (h : SlF fM w v l) :
    Calls Try.prog 66 #[v, fnv 67] w fun e w' => ∃ r : Bool, e = .returned (.bool r) ∧ (r = true ↔ ∀ i, i + 1 < l.length → later (M3.at' l i) (M3.at' l (i + 1)) = false) ∧ Below w.heap.size w w' := by
  by_cases h0 : 0 < l.length
  · obtain ⟨b, off, c, rfl, hbl, hlc, hcm⟩ := h.shape h0
    unfold maxLen at hcm
    have hG : Gi w (.slice (some ⟨b, off, none⟩) l.length c) l w := ⟨h, Below.refl _ _⟩
    clear h hbl
    obtain ⟨fv, hfv⟩ : ∃ fv, fv = fnv 67 := ⟨_, rfl⟩
    rw [← hfv]
    have HV : Hid (fv = fnv 67) := hfv
    clear hfv
    go_enter Try.func66, Try.ntmps66
    go_wp2_with fail
    go_loopw [5] (fun i wr => ∃ k : Nat, k < l.length ∧ i = .int .i64 k ∧ (∀ j, k ≤ j → j + 1 < l.length → later (M3.at' l j) (M3.at' l (j + 1)) = false) ∧ Gi w (.slice (some ⟨b, off, none⟩) l.length c) l wr) (fun i _ => (intOf i).toNat)
    case atStart => exact ⟨l.length - 1, by omega, by rw [show ((l.length - 1 : Nat) : Int) = (l.length : Int) - 1 by omega], fun j hj hl => by omega, hG⟩
    case round =>
      clear hG
      obtain ⟨k, hk, rfl, hall, hG⟩ := hrel
      rcases k with _ | j
      · have HF : Hid (∀ i, i + 1 < l.length → later (M3.at' l i) (M3.at' l (i + 1)) = false) := show ∀ _, _ from fun i hi => hall i (by omega) hi
        have hbel := hG.bel
        clear hall
        go_wp2
        go_ret
        exact ⟨true, rfl, ⟨fun _ => HF.out, fun _ => rfl⟩, hbel⟩
      · cases hlt : later (M3.at' l j) (M3.at' l (j + 1))
        · have hn : ¬ ord (M3.at' l (j + 1)) (M3.at' l j) < 0 := by
            have := ord_neg (M3.at' l (j + 1)) (M3.at' l j)
            rw [hlt] at this
            simpa using this
          have HK : Hid (∀ i, j ≤ i → i + 1 < l.length → later (M3.at' l i) (M3.at' l (i + 1)) = false) := show ∀ _, _ from fun i h1 h2 => by
            by_cases e : i = j
            · rw [e]; exact hlt
            · exact hall i (by omega) h2
          clear hall hlt
          go_wp2_with fail
          refine region_known (by kernel_rfl) (by kernel_rfl) 0 (by decide) (by kernel_rfl) (fun _ W => Gi w (.slice (some ⟨b, off, none⟩) l.length c) l W) [fv, .slice (some ⟨b, off, none⟩) l.length c, .int .i64 ((j + 1 : Nat) : Int), .pointer (some ⟨b, off + (j + 1) * 3, none⟩), (M3.at' l (j + 1)).val, .slice (some ⟨b, off, none⟩) l.length c, .int .i64 ((j + 1 : Nat) : Int), .int .i64 (j : Int), .pointer (some ⟨b, off + j * 3, none⟩), (M3.at' l j).val, .int .i64 (ord (M3.at' l (j + 1)) (M3.at' l j)), .bool false] hG.drew ?step ?done
          case step =>
            intro L ix o' A W hj hI hL hd
            have hin : ix < 12 := by
              by_cases hl : ix < 12
              · exact hl
              · simp [hl] at hj
            have hsz : A.tmps.size = 25 := hI.size
            have hg := hI.g
            rcases ix with _ | ix
            · obtain rfl := (Option.some.inj hj).symm
              have e0 : A.eval (.tmp 1) = fv := hI.old 1 (by kernel_rfl)
              exact at_op rfl rfl (move_op rfl ⟨_, rfl, e0, hg⟩)
            rcases ix with _ | ix
            · obtain rfl := (Option.some.inj hj).symm
              have e0 : A.eval (.tmp 0) = .slice (some ⟨b, off, none⟩) l.length c := hI.old 0 (by kernel_rfl)
              exact at_op rfl rfl (move_op rfl ⟨_, rfl, e0, hg⟩)
            rcases ix with _ | ix
            · obtain rfl := (Option.some.inj hj).symm
              have e0 : A.eval (.tmp 5) = .int .i64 ((j + 1 : Nat) : Int) := hI.old 5 (by kernel_rfl)
              exact at_op rfl rfl (move_op rfl ⟨_, rfl, e0, hg⟩)
            rcases ix with _ | ix
            · obtain rfl := (Option.some.inj hj).symm
              have e0 : A.eval (.tmp 14) = .slice (some ⟨b, off, none⟩) l.length c := hI.val hd 1 14 rfl rfl (by kernel_rfl)
              have e1 : A.eval (.tmp 15) = .int .i64 ((j + 1 : Nat) : Int) := hI.val hd 2 15 rfl rfl (by kernel_rfl)
              exact at_op rfl rfl (ixF_op okM rfl e0 e1 (by omega) ⟨_, rfl, rfl, hg⟩)
            rcases ix with _ | ix
            · obtain rfl := (Option.some.inj hj).symm
              have e0 : A.eval (.tmp 16) = .pointer (some ⟨b, off + (j + 1) * 3, none⟩) := hI.val hd 3 16 rfl rfl (by kernel_rfl)
              exact at_op rfl rfl (elF_op okM rfl e0 (hg.sl.range okM (at_some (by omega))) ⟨_, rfl, rfl, hg⟩)
            rcases ix with _ | ix
            · obtain rfl := (Option.some.inj hj).symm
              have e0 : A.eval (.tmp 0) = .slice (some ⟨b, off, none⟩) l.length c := hI.old 0 (by kernel_rfl)
              exact at_op rfl rfl (move_op rfl ⟨_, rfl, e0, hg⟩)
            rcases ix with _ | ix
            · obtain rfl := (Option.some.inj hj).symm
              have e0 : A.eval (.tmp 5) = .int .i64 ((j + 1 : Nat) : Int) := hI.old 5 (by kernel_rfl)
              exact at_op rfl rfl (move_op rfl ⟨_, rfl, e0, hg⟩)
            rcases ix with _ | ix
            · obtain rfl := (Option.some.inj hj).symm
              have e0 : A.eval (.tmp 19) = .int .i64 ((j + 1 : Nat) : Int) := hI.val hd 6 19 rfl rfl (by kernel_rfl)
              exact at_op rfl rfl (bin_op (vy := .int .i64 1) rfl e0 rfl (fun w => by rw [show (j : Int) = ((j + 1 : Nat) : Int) - 1 from by omega]; exact subN _ _ _ _ w (by omega) (by omega)) ⟨_, rfl, rfl, hg⟩)
            rcases ix with _ | ix
            · obtain rfl := (Option.some.inj hj).symm
              have e0 : A.eval (.tmp 18) = .slice (some ⟨b, off, none⟩) l.length c := hI.val hd 5 18 rfl rfl (by kernel_rfl)
              have e1 : A.eval (.tmp 20) = .int .i64 (j : Int) := hI.val hd 7 20 rfl rfl (by kernel_rfl)
              exact at_op rfl rfl (ixF_op okM rfl e0 e1 (by omega) ⟨_, rfl, rfl, hg⟩)
            rcases ix with _ | ix
            · obtain rfl := (Option.some.inj hj).symm
              have e0 : A.eval (.tmp 21) = .pointer (some ⟨b, off + j * 3, none⟩) := hI.val hd 8 21 rfl rfl (by kernel_rfl)
              exact at_op rfl rfl (elF_op okM rfl e0 (hg.sl.range okM (at_some (by omega))) ⟨_, rfl, rfl, hg⟩)
            rcases ix with _ | ix
            · obtain rfl := (Option.some.inj hj).symm
              have e0 : A.eval (.tmp 13) = fv := hI.val hd 0 13 rfl rfl (by kernel_rfl)
              have e1 : A.eval (.tmp 17) = (M3.at' l (j + 1)).val := hI.val hd 4 17 rfl rfl (by kernel_rfl)
              have e2 : A.eval (.tmp 22) = (M3.at' l j).val := hI.val hd 9 22 rfl rfl (by kernel_rfl)
              refine at_op rfl rfl (callv_op (args := [.tmp 17, .tmp 22]) rfl (e0.trans HV.out) Try.func67 (by kernel_rfl) (by kernel_rfl) ?_)
              simp only [List.map_cons, List.map_nil, e1, e2]
              refine (byTime_impl _ _ _).mono ?_
              rintro e W1 ⟨rfl, hb⟩
              exact ⟨_, rfl, _, rfl, rfl, hg.below hb⟩
            rcases ix with _ | ix
            · obtain rfl := (Option.some.inj hj).symm
              have e0 : A.eval (.tmp 23) = .int .i64 (ord (M3.at' l (j + 1)) (M3.at' l j)) := hI.val hd 10 23 rfl rfl (by kernel_rfl)
              exact at_op rfl rfl (bin_op (vy := .int .i64 0) rfl e0 rfl (fun w => by first | (simp [go_sem, hn]; done) | (simp [go_sem]; omega)) ⟨_, rfl, rfl, hg⟩)
            omega
          case done =>
            intro A W hI
            have hg := hI.g
            have s24 : A.tmps.getD 24 undef = .bool false := hI.last 11 24 rfl
            have hA := hI.frame [13, 14, 15, 16, 17, 18, 19, 20, 21, 22, 23, 24] (by kernel_rfl)
            rw [hA]
            simp only [putAll, List.foldl_cons, List.foldl_nil, s24, Act.put, List.setIfInBounds_toArray, List.set_cons_zero, List.set_cons_succ]
            clear hA hI s24
            go_wp2
            go_roundw
            case rel => exact ⟨j, by omega, by go_num, HK.out, hg⟩
            case measure => simp [intOf]
        · have hn : ord (M3.at' l (j + 1)) (M3.at' l j) < 0 := by
            have := ord_neg (M3.at' l (j + 1)) (M3.at' l j)
            rw [hlt] at this
            simpa using this
          have HK : Hid (¬ ∀ i, i + 1 < l.length → later (M3.at' l i) (M3.at' l (i + 1)) = false) := show ¬ _ from fun hh => by
            have := hh j (by omega)
            rw [hlt] at this
            cases this
          clear hall hlt
          go_wp2_with fail
          refine region_known (by kernel_rfl) (by kernel_rfl) 0 (by decide) (by kernel_rfl) (fun _ W => Gi w (.slice (some ⟨b, off, none⟩) l.length c) l W) [fv, .slice (some ⟨b, off, none⟩) l.length c, .int .i64 ((j + 1 : Nat) : Int), .pointer (some ⟨b, off + (j + 1) * 3, none⟩), (M3.at' l (j + 1)).val, .slice (some ⟨b, off, none⟩) l.length c, .int .i64 ((j + 1 : Nat) : Int), .int .i64 (j : Int), .pointer (some ⟨b, off + j * 3, none⟩), (M3.at' l j).val, .int .i64 (ord (M3.at' l (j + 1)) (M3.at' l j)), .bool true] hG.drew ?step ?done
          case step =>
            intro L ix o' A W hj hI hL hd
            have hin : ix < 12 := by
              by_cases hl : ix < 12
              · exact hl
              · simp [hl] at hj
            have hsz : A.tmps.size = 25 := hI.size
            have hg := hI.g
            rcases ix with _ | ix
            · obtain rfl := (Option.some.inj hj).symm
              have e0 : A.eval (.tmp 1) = fv := hI.old 1 (by kernel_rfl)
              exact at_op rfl rfl (move_op rfl ⟨_, rfl, e0, hg⟩)
            rcases ix with _ | ix
            · obtain rfl := (Option.some.inj hj).symm
              have e0 : A.eval (.tmp 0) = .slice (some ⟨b, off, none⟩) l.length c := hI.old 0 (by kernel_rfl)
              exact at_op rfl rfl (move_op rfl ⟨_, rfl, e0, hg⟩)
            rcases ix with _ | ix
            · obtain rfl := (Option.some.inj hj).symm
              have e0 : A.eval (.tmp 5) = .int .i64 ((j + 1 : Nat) : Int) := hI.old 5 (by kernel_rfl)
              exact at_op rfl rfl (move_op rfl ⟨_, rfl, e0, hg⟩)
            rcases ix with _ | ix
            · obtain rfl := (Option.some.inj hj).symm
              have e0 : A.eval (.tmp 14) = .slice (some ⟨b, off, none⟩) l.length c := hI.val hd 1 14 rfl rfl (by kernel_rfl)
              have e1 : A.eval (.tmp 15) = .int .i64 ((j + 1 : Nat) : Int) := hI.val hd 2 15 rfl rfl (by kernel_rfl)
              exact at_op rfl rfl (ixF_op okM rfl e0 e1 (by omega) ⟨_, rfl, rfl, hg⟩)
            rcases ix with _ | ix
            · obtain rfl := (Option.some.inj hj).symm
              have e0 : A.eval (.tmp 16) = .pointer (some ⟨b, off + (j + 1) * 3, none⟩) := hI.val hd 3 16 rfl rfl (by kernel_rfl)
              exact at_op rfl rfl (elF_op okM rfl e0 (hg.sl.range okM (at_some (by omega))) ⟨_, rfl, rfl, hg⟩)
            rcases ix with _ | ix
            · obtain rfl := (Option.some.inj hj).symm
              have e0 : A.eval (.tmp 0) = .slice (some ⟨b, off, none⟩) l.length c := hI.old 0 (by kernel_rfl)
              exact at_op rfl rfl (move_op rfl ⟨_, rfl, e0, hg⟩)
            rcases ix with _ | ix
            · obtain rfl := (Option.some.inj hj).symm
              have e0 : A.eval (.tmp 5) = .int .i64 ((j + 1 : Nat) : Int) := hI.old 5 (by kernel_rfl)
              exact at_op rfl rfl (move_op rfl ⟨_, rfl, e0, hg⟩)
            rcases ix with _ | ix
            · obtain rfl := (Option.some.inj hj).symm
              have e0 : A.eval (.tmp 19) = .int .i64 ((j + 1 : Nat) : Int) := hI.val hd 6 19 rfl rfl (by kernel_rfl)
              exact at_op rfl rfl (bin_op (vy := .int .i64 1) rfl e0 rfl (fun w => by rw [show (j : Int) = ((j + 1 : Nat) : Int) - 1 from by omega]; exact subN _ _ _ _ w (by omega) (by omega)) ⟨_, rfl, rfl, hg⟩)
            rcases ix with _ | ix
            · obtain rfl := (Option.some.inj hj).symm
              have e0 : A.eval (.tmp 18) = .slice (some ⟨b, off, none⟩) l.length c := hI.val hd 5 18 rfl rfl (by kernel_rfl)
              have e1 : A.eval (.tmp 20) = .int .i64 (j : Int) := hI.val hd 7 20 rfl rfl (by kernel_rfl)
              exact at_op rfl rfl (ixF_op okM rfl e0 e1 (by omega) ⟨_, rfl, rfl, hg⟩)
            rcases ix with _ | ix
            · obtain rfl := (Option.some.inj hj).symm
              have e0 : A.eval (.tmp 21) = .pointer (some ⟨b, off + j * 3, none⟩) := hI.val hd 8 21 rfl rfl (by kernel_rfl)
              exact at_op rfl rfl (elF_op okM rfl e0 (hg.sl.range okM (at_some (by omega))) ⟨_, rfl, rfl, hg⟩)
            rcases ix with _ | ix
            · obtain rfl := (Option.some.inj hj).symm
              have e0 : A.eval (.tmp 13) = fv := hI.val hd 0 13 rfl rfl (by kernel_rfl)
              have e1 : A.eval (.tmp 17) = (M3.at' l (j + 1)).val := hI.val hd 4 17 rfl rfl (by kernel_rfl)
              have e2 : A.eval (.tmp 22) = (M3.at' l j).val := hI.val hd 9 22 rfl rfl (by kernel_rfl)
              refine at_op rfl rfl (callv_op (args := [.tmp 17, .tmp 22]) rfl (e0.trans HV.out) Try.func67 (by kernel_rfl) (by kernel_rfl) ?_)
              simp only [List.map_cons, List.map_nil, e1, e2]
              refine (byTime_impl _ _ _).mono ?_
              rintro e W1 ⟨rfl, hb⟩
              exact ⟨_, rfl, _, rfl, rfl, hg.below hb⟩
            rcases ix with _ | ix
            · obtain rfl := (Option.some.inj hj).symm
              have e0 : A.eval (.tmp 23) = .int .i64 (ord (M3.at' l (j + 1)) (M3.at' l j)) := hI.val hd 10 23 rfl rfl (by kernel_rfl)
              exact at_op rfl rfl (bin_op (vy := .int .i64 0) rfl e0 rfl (fun w => by first | (simp [go_sem, hn]; done) | (simp [go_sem]; omega)) ⟨_, rfl, rfl, hg⟩)
            omega
          case done =>
            intro A W hI
            have hg := hI.g
            have s24 : A.tmps.getD 24 undef = .bool true := hI.last 11 24 rfl
            have hA := hI.frame [13, 14, 15, 16, 17, 18, 19, 20, 21, 22, 23, 24] (by kernel_rfl)
            rw [hA]
            simp only [putAll, List.foldl_cons, List.foldl_nil, s24, Act.put, List.setIfInBounds_toArray, List.set_cons_zero, List.set_cons_succ]
            clear hA hI s24
            go_wp2
            go_ret
            exact ⟨false, rfl, ⟨fun h => (by cases h), fun h => absurd h HK.out⟩, hg.bel⟩
  · obtain ⟨a, cap, rfl, h1⟩ := h
    have hl : l = [] := List.eq_nil_of_length_eq_zero (by omega)
    subst hl
    go_enter Try.func66, Try.ntmps66
    go_wp2_with fail
    go_loopw [5] (fun i wr => i = .int .i64 (-1) ∧ wr = w) (fun i _ => 0)
    case atStart => exact ⟨rfl, rfl⟩
    case round =>
      obtain ⟨rfl, rfl⟩ := hrel
      go_wp2
      go_ret
      exact ⟨true, rfl, ⟨fun _ i hi => by simp at hi, fun _ => rfl⟩, Below.refl _ _⟩
theorem any_wrong (l : List M3) : l.any (fun m => !m.ok) = false ↔ ∀ i, i < l.length → (M3.at' l i).ok = true := by
  rw [List.any_eq_false]
  constructor
  · intro h i hi
    have := h (M3.at' l i) (List.mem_of_getElem? (at_some hi))
    simpa using this
  · intro h x hx
    obtain ⟨j, hj, rfl⟩ := List.mem_iff_getElem.1 hx
    have := h j hj
    unfold M3.at' at this
    rw [List.getD_eq_getElem?_getD, List.getElem?_eq_getElem hj] at this
    simpa using this
theorem inboxOk_impl (v : Value) (l : List M3) (w : World) (h : SlF fM w v l) :
    Calls Try.prog 31 #[v] w fun e w' => e = .returned (.bool (inboxOk l)) ∧ Below w.heap.size w w' := by
  have HO : Hid (inboxOk l = true ↔ l.any (fun m => !m.ok) = false ∧ (∀ i, i + 1 < l.length → later (M3.at' l i) (M3.at' l (i + 1)) = false) ∧ l.length ≤ 200) := show _ ↔ _ by rw [fits_all, any_wrong]
  have hS : Hid (SlF fM w v l) := h
  obtain ⟨a, cap, rfl, -, hlc, hcm, -⟩ := h
  unfold maxLen at hcm
  by_cases hn : l.length ≤ 200
  · cases hany : l.any (fun m => !m.ok)
    · have HA : Hid (l.any (fun m => !m.ok) = false) := hany
      clear hany
      go_enter Try.func31, Try.ntmps31
      go_wp2_with (first
        | (go_at_call 64; refine (containsWrong_impl _ _ _ hS.out).mono ?_; rintro e w1 ⟨rfl, hb1⟩; rw [HA.out])
        | (go_at_call 66; refine (sorted_impl _ _ _ (hS.out.below hb1)).mono ?_; rintro e w2 ⟨r, rfl, hr, hb2⟩; have HR : Hid (r = true ↔ ∀ i, i + 1 < l.length → later (M3.at' l i) (M3.at' l (i + 1)) = false) := hr; clear hr))
      go_ret
      exact ⟨ret_bool (by rw [Bool.eq_iff_iff, HO.out, HR.out]; exact ⟨fun h => ⟨HA.out, h, hn⟩, fun h => h.2.1⟩), below_more hb1 hb2⟩
    · have HA : Hid (l.any (fun m => !m.ok) = true) := hany
      have HF : Hid (inboxOk l = false) := show _ = _ by
        rw [Bool.eq_false_iff]
        intro e
        have := HO.out.1 e
        rw [hany] at this
        simp at this
      clear hany
      go_enter Try.func31, Try.ntmps31
      go_wp2_with (first
        | (go_at_call 64; refine (containsWrong_impl _ _ _ hS.out).mono ?_; rintro e w1 ⟨rfl, hb1⟩; rw [HA.out]))
      go_ret
      exact ⟨ret_bool HF.out.symm, hb1⟩
  · have HF : Hid (inboxOk l = false) := show _ = _ by
      rw [Bool.eq_false_iff]
      intro e
      exact hn (HO.out.1 e).2.2
    go_enter Try.func31, Try.ntmps31
    go_wp2
    go_ret
    exact ⟨ret_bool HF.out.symm, Below.refl _ _⟩
end Go.Proofs.Ytjjafaikaghlgaa.Mem
