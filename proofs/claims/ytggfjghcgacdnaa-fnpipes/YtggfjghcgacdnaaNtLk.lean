/-
  Two pipes, or notes, that are the same are alike, as the laws have it.
-/
import Derived.Test.YtggfjghcgacdnaaPpEx
import Derived.Laws.StructEq
namespace Go.Proofs.Ytggfjghcgacdnaa.Mem
open Go.ChangeShapes Go.WideShapes Go.RowKit Base Num Slc Slf Rw Tmr Reg Ex
set_option linter.unusedVariables false
set_option linter.unusedSimpArgs false
set_option maxRecDepth 20000

theorem neq_note (n : Nt) (x y : Operand) (w : World) : (do eqGuard .neq 30 x y n.val n.val; binOp .neq 30 n.val n.val : Sem Value).run Try.prog w = .ok (.bool false) w := by
  obtain ⟨p, t, ⟨a, b, c⟩⟩ := n
  have h : ((do eqGuard .neq 30 x y (Nt.mk p t ⟨a, b, c⟩).val (Nt.mk p t ⟨a, b, c⟩).val; binOp .neq 30 (Nt.mk p t ⟨a, b, c⟩).val (Nt.mk p t ⟨a, b, c⟩).val : Sem Value).run Try.prog w) = .ok (.bool (!((p == p) && ((t == t) && ((a == a) && ((b == b) && (c == c))))))) w := by
    have hm : Try.prog.eqGuardType Try.prog.depth 30 = false := by kernel_rfl
    rw [nt_val]
    simp only [Sem.run_bind, run_eqGuard_agg w _ _ _ _ _ _ hm, Result.andThen_ok]
    have ht : Try.prog.underlying 30 = some (.struct (Try.prog.fieldsOf 30)) := by kernel_rfl
    have hp : Try.prog.stoodInHeld 30 = false := by kernel_rfl
    have ht2 : Try.prog.underlying 28 = some (.struct (Try.prog.fieldsOf 28)) := by kernel_rfl
    have hp2 : Try.prog.stoodInHeld 28 = false := by kernel_rfl
    obtain ⟨f1, f2, f3, hf, a1, a2, a3, b1, b2, b3, c1, c2, c3⟩ : ∃ f1 f2 f3 : Field, (Try.prog.fieldsOf 30).toList = [f1, f2, f3] ∧ (f1.name ≠ "_") ∧ f1.type = 4 ∧ f1.offset = 0 ∧ (f2.name ≠ "_") ∧ f2.type = 2 ∧ f2.offset = 1 ∧ (f3.name ≠ "_") ∧ f3.type = 28 ∧ f3.offset = 2 :=
      ⟨_, _, _, rfl, by decide, rfl, rfl, by decide, rfl, rfl, by decide, rfl, rfl⟩
    obtain ⟨g1, g2, g3, hg, d1, d2, d3, e1, e2, e3, i1, i2, i3⟩ : ∃ f1 f2 f3 : Field, (Try.prog.fieldsOf 28).toList = [f1, f2, f3] ∧ (f1.name ≠ "_") ∧ f1.type = 2 ∧ f1.offset = 0 ∧ (f2.name ≠ "_") ∧ f2.type = 2 ∧ f2.offset = 1 ∧ (f3.name ≠ "_") ∧ f3.type = 2 ∧ f3.offset = 2 :=
      ⟨_, _, _, rfl, by decide, rfl, rfl, by decide, rfl, rfl, by decide, rfl, rfl⟩
    have hi : Try.prog.underlying 2 = some (.int .i64) := Try.underlying2
    have hb : Try.prog.underlying 4 = some .bool := Try.underlying4
    have hu2 : Try.prog.underlying 28 = _ := Try.underlying28
    have hpart : (part 28 #[.bool p, .int .i64 t, .int .i64 a, .int .i64 b, .int .i64 c] 2).run Try.prog w = .ok (.agg #[.int .i64 a, .int .i64 b, .int .i64 c]) w := by kernel_rfl
    rw [run_neq_struct, run_equalIn_struct w 9999 30 _ _ ht hp, hf]
    simp [go_sem, Op.eqFields, a1, a2, a3, b1, b2, b3, c1, c2, c3, hi, hb, hpart, run_equalIn_struct w 9998 28 _ _ ht2 hp2, hg, d1, d2, d3, e1, e2, e3, i1, i2, i3]
  rw [h]
  simp
theorem neqN_op {o : Oper} {A : Act} {w : World} {K : Act → World → Prop} {Q : Exit → Act → World → Prop} {x y : Operand} {T : TypeId} {n : Nt} (ho : o.op = .binOp .neq 30 x y T) (hx : A.eval x = n.val) (hy : A.eval y = n.val) (h : K (A.put o.dst (.bool false)) w) : o.wp Try.prog A w K Q := by
  refine val_op (v := .bool false) ?_ h
  unfold execOp
  have e := neq_note n x y w
  simp only [Sem.run_bind] at e
  simp only [ho, hx, hy, Sem.run_bind]
  cases hq : (eqGuard .neq 30 x y n.val n.val).run Try.prog w with
  | halt h w' => rw [hq] at e; cases e
  | ok a w' =>
    rw [hq] at e
    simp only [Result.andThen_ok] at e ⊢
    rw [e]
    rfl
/-- What stands while two pipes are held against each other. -/
structure Glk (w : World) (g1 g2 : Nat) (c : Int) (x y : Value) (l : List Nt) (W : World) : Prop where
  r1 : Row W g1 #[.int .i64 c, x] 26
  r2 : Row W g2 #[.int .i64 c, y] 26
  sx : SlF fN W x l
  sy : SlF fN W y l
  bel : Below w.heap.size w W
theorem Glk.below {w W W' : World} {g1 g2 : Nat} {c : Int} {x y : Value} {l : List Nt} (h : Glk w g1 g2 c x y l W) (hb : Below W.heap.size W W') : Glk w g1 g2 c x y l W' := ⟨h.r1.below hb, h.r2.below hb, h.sx.below hb, h.sy.below hb, below_more h.bel hb⟩
set_option maxHeartbeats 1000000 in
theorem likePipe_same (v u : Value) (p : Pp) (w : World) (h1 : PpSl w v p) (h2 : PpSl w u p) :
    Calls Try.prog 15 #[v, u] w fun e w' => e = .returned (.bool true) ∧ Below w.heap.size w w' := by
  obtain ⟨x, hv, hx⟩ := h1
  obtain ⟨y, hu, hy⟩ := h2
  obtain ⟨c, l⟩ := p
  have hv : v = .agg #[.int .i64 c, x] := hv
  have hu : u = .agg #[.int .i64 c, y] := hu
  have hx : SlF fN w x l := hx
  have hy : SlF fN w y l := hy
  have HX : Hid (SlF fN w x l) := hx
  have HY : Hid (SlF fN w y l) := hy
  obtain ⟨ax, cp, rfl, -, hlc, hcm, -⟩ := hx
  obtain ⟨ay, cp2, rfl, -, hlc2, hcm2, -⟩ := hy
  unfold maxLen at hcm hcm2
  have hne : (c != c) = false := by simp
  have hll : ((l.length : Int) != (l.length : Int)) = false := by simp
  have hll2 : (l.length != l.length) = false := by simp
  go_enter Try.func15, Try.ntmps15
  go_wp2_with (first
    | (refine box_pp rfl rfl hv ?_; intro w1 r1 b1)
    | (refine box_pp rfl rfl hu ?_; intro w2 r2 b2; have HG : Hid (Glk w w.heap.size w1.heap.size c (.slice ax l.length cp) (.slice ay l.length cp2) l w2) := ⟨r1.below b2, r2, HX.out.below (below_more b1 b2), HY.out.below (below_more b1 b2), below_more b1 b2⟩; have c0 : w2.cell? ⟨w.heap.size, 0, none⟩ = some (.int .i64 c) := HG.out.r1.cell 0; have c1 : w2.cell? ⟨w.heap.size, 1, none⟩ = some (.slice ax l.length cp) := HG.out.r1.cell 1; have d0 : w2.cell? ⟨w1.heap.size, 0, none⟩ = some (.int .i64 c) := HG.out.r2.cell 0; have d1 : w2.cell? ⟨w1.heap.size, 1, none⟩ = some (.slice ay l.length cp2) := HG.out.r2.cell 1))
  go_loopw [5] (fun i wr => ∃ k : Nat, k ≤ l.length ∧ i = .int .i64 k ∧ Glk w w.heap.size w1.heap.size c (.slice ax l.length cp) (.slice ay l.length cp2) l wr) (fun i _ => l.length - (intOf i).toNat)
  case atStart => exact ⟨0, Nat.zero_le _, rfl, HG.out⟩
  case round =>
    obtain ⟨k, hk, rfl, hG⟩ := hrel
    have c0 : wr.cell? ⟨w.heap.size, 1, none⟩ = some (.slice ax l.length cp) := hG.r1.cell 1
    by_cases hlt : k < l.length
    · obtain ⟨b, off, c', e, -, -, -⟩ := hG.sx.shape (by omega)
      simp only [Value.slice.injEq] at e
      obtain ⟨rfl, -, rfl⟩ := e
      obtain ⟨b2, off2, c2', e, -, -, -⟩ := hG.sy.shape (by omega)
      simp only [Value.slice.injEq] at e
      obtain ⟨rfl, -, rfl⟩ := e
      go_wp2_with fail
      refine region_km (by kernel_rfl) (by kernel_rfl) (by kernel_rfl) (fun L W => Glk w w.heap.size w1.heap.size c (.slice (some ⟨b, off, none⟩) l.length cp) (.slice (some ⟨b2, off2, none⟩) l.length cp2) l W) (fun j => ([KIs (.pointer (some ⟨w.heap.size, 1, none⟩)), KIs (.slice (some ⟨b, off, none⟩) l.length cp), KIs (.int .i64 (k : Int)), KIs (.pointer (some ⟨b, off + k * 5, none⟩)), KIs (Nt.at' l k).val, KIs (.pointer (some ⟨w1.heap.size, 1, none⟩)), KIs (.slice (some ⟨b2, off2, none⟩) l.length cp2), KIs (.int .i64 (k : Int)), KIs (.pointer (some ⟨b2, off2 + k * 5, none⟩)), KIs (Nt.at' l k).val, KIs (.bool false)] : List (Value → World → Prop)).getD j KAny) (fun L L' W hL h => h) (hG.below (drew_below (n := 1) rfl)) ?step ?done
      case step =>
        intro L ix o A W hi hI hLi hd
        have hin : ix < 11 := by
          by_cases hl : ix < 11
          · exact hl
          · simp [hl] at hi
        have hsz : A.tmps.size = 38 := hI.size
        have hg : Glk w w.heap.size w1.heap.size c (.slice (some ⟨b, off, none⟩) l.length cp) (.slice (some ⟨b2, off2, none⟩) l.length cp2) l W := hI.j.1
        rcases ix with _ | _ | _ | _ | _ | _ | _ | _ | _ | _ | _ | ix
        · cases hi
          have e1 : A.eval (.tmp 2) = .pointer (some ⟨w.heap.size, 0, none⟩) := hI.old 2 (by kernel_rfl)
          refine at_op rfl rfl (val_op (v := .pointer (some ⟨w.heap.size, 1, none⟩)) ?_ ⟨_, rfl, hg, fun _ _ h => h, fun _ => rfl⟩)
          unfold execOp
          simp only [List.getElem_toArray, List.getElem_cons_zero, List.getElem_cons_succ, e1]
          simp [go_sem]
        · cases hi
          have e1 : A.eval (.tmp 27) = .pointer (some ⟨w.heap.size, 1, none⟩) := hI.km hd 0 27 rfl rfl (by kernel_rfl)
          have c0 : W.cell? ⟨w.heap.size, 1, none⟩ = some (.slice (some ⟨b, off, none⟩) l.length cp) := hg.r1.cell 1
          refine at_op rfl rfl (val_op (v := .slice (some ⟨b, off, none⟩) l.length cp) ?_ ⟨_, rfl, hg, fun _ _ h => h, fun _ => rfl⟩)
          unfold execOp
          simp only [List.getElem_toArray, List.getElem_cons_zero, List.getElem_cons_succ, e1]
          simp [go_sem, c0]
        · cases hi
          exact at_op rfl rfl (move_op rfl ⟨_, rfl, hg, fun _ _ h => h, fun _ => hI.old 5 (by kernel_rfl)⟩)
        · cases hi
          have e1 : A.eval (.tmp 28) = .slice (some ⟨b, off, none⟩) l.length cp := hI.km hd 1 28 rfl rfl (by kernel_rfl)
          have e2 : A.eval (.tmp 29) = .int .i64 (k : Int) := hI.km hd 2 29 rfl rfl (by kernel_rfl)
          exact at_op rfl rfl (ixF_op okN rfl e1 e2 hlt ⟨_, rfl, hg, fun _ _ h => h, fun _ => rfl⟩)
        · cases hi
          have e1 : A.eval (.tmp 30) = .pointer (some ⟨b, off + k * 5, none⟩) := hI.km hd 3 30 rfl rfl (by kernel_rfl)
          exact at_op rfl rfl (elF_op okN rfl e1 (hg.sx.range okN (atN hlt)) ⟨_, rfl, hg, fun _ _ h => h, fun _ => rfl⟩)
        · cases hi
          have e1 : A.eval (.tmp 3) = .pointer (some ⟨w1.heap.size, 0, none⟩) := hI.old 3 (by kernel_rfl)
          refine at_op rfl rfl (val_op (v := .pointer (some ⟨w1.heap.size, 1, none⟩)) ?_ ⟨_, rfl, hg, fun _ _ h => h, fun _ => rfl⟩)
          unfold execOp
          simp only [List.getElem_toArray, List.getElem_cons_zero, List.getElem_cons_succ, e1]
          simp [go_sem]
        · cases hi
          have e1 : A.eval (.tmp 32) = .pointer (some ⟨w1.heap.size, 1, none⟩) := hI.km hd 5 32 rfl rfl (by kernel_rfl)
          have c0 : W.cell? ⟨w1.heap.size, 1, none⟩ = some (.slice (some ⟨b2, off2, none⟩) l.length cp2) := hg.r2.cell 1
          refine at_op rfl rfl (val_op (v := .slice (some ⟨b2, off2, none⟩) l.length cp2) ?_ ⟨_, rfl, hg, fun _ _ h => h, fun _ => rfl⟩)
          unfold execOp
          simp only [List.getElem_toArray, List.getElem_cons_zero, List.getElem_cons_succ, e1]
          simp [go_sem, c0]
        · cases hi
          exact at_op rfl rfl (move_op rfl ⟨_, rfl, hg, fun _ _ h => h, fun _ => hI.old 5 (by kernel_rfl)⟩)
        · cases hi
          have e1 : A.eval (.tmp 33) = .slice (some ⟨b2, off2, none⟩) l.length cp2 := hI.km hd 6 33 rfl rfl (by kernel_rfl)
          have e2 : A.eval (.tmp 34) = .int .i64 (k : Int) := hI.km hd 7 34 rfl rfl (by kernel_rfl)
          exact at_op rfl rfl (ixF_op okN rfl e1 e2 hlt ⟨_, rfl, hg, fun _ _ h => h, fun _ => rfl⟩)
        · cases hi
          have e1 : A.eval (.tmp 35) = .pointer (some ⟨b2, off2 + k * 5, none⟩) := hI.km hd 8 35 rfl rfl (by kernel_rfl)
          exact at_op rfl rfl (elF_op okN rfl e1 (hg.sy.range okN (atN hlt)) ⟨_, rfl, hg, fun _ _ h => h, fun _ => rfl⟩)
        · cases hi
          have e1 : A.eval (.tmp 31) = (Nt.at' l k).val := hI.km hd 4 31 rfl rfl (by kernel_rfl)
          have e2 : A.eval (.tmp 36) = (Nt.at' l k).val := hI.km hd 9 36 rfl rfl (by kernel_rfl)
          exact at_op rfl rfl (neqN_op rfl e1 e2 ⟨_, rfl, hg, fun _ _ h => h, fun _ => rfl⟩)
        · omega
      case done =>
        intro A W hI hS
        have hg : Glk w w.heap.size w1.heap.size c (.slice (some ⟨b, off, none⟩) l.length cp) (.slice (some ⟨b2, off2, none⟩) l.length cp2) l W := hS
        have e4 : A.tmps.getD 37 undef = .bool false := hI.kml 10 37 rfl
        have hA := hI.frame [27, 28, 29, 30, 31, 32, 33, 34, 35, 36, 37] (by kernel_rfl)
        rw [hA]
        simp only [putAll, List.foldl_cons, List.foldl_nil, e4, Act.put, List.setIfInBounds_toArray, List.set_cons_zero, List.set_cons_succ]
        clear hA hI e4 c0 hG
        go_wp2_with fail
        go_roundw
        case rel => exact ⟨k + 1, by omega, by go_num, hg⟩
        case measure => simp [intOf]; omega
    · have hb := hG.bel
      clear hG
      go_wp2
      go_ret
      exact ⟨rfl, hb⟩
end Go.Proofs.Ytggfjghcgacdnaa.Mem
